/- kind: variables; slices.Grow and slices.Concat of rows of integers and of variables. -/
import Derived.Test.YtkdhhcidpklgoaaGreatDoorQ19
import Derived.Lib.AppendZeros
namespace Go.Proofs.YtkdhhcidpklgoaaGreatDoor
open Go.RowKit Go.Shelf
attribute [local go_sem] Oper.semAt_some

def vrCells : List Vr → List Value
  | [] => []
  | x :: r => .int .i64 x.1 :: .int .i64 x.2 :: vrCells r
theorem vrCells_len : ∀ l, (vrCells l).length = l.length * 2
  | [] => rfl
  | x :: r => by simp only [vrCells, List.length_cons, vrCells_len r]; omega
theorem vrCells_append (k : List Vr) : ∀ l, vrCells (l ++ k) = vrCells l ++ vrCells k
  | [] => rfl
  | x :: r => by simp [vrCells, vrCells_append k r]
theorem vrCells_get : ∀ (l : List Vr) (j : Nat) (u : Value), (vrCells l)[j]? = some u → ∃ i a, l[i]? = some a ∧ ((j = i * 2 ∧ u = .int .i64 a.1) ∨ (j = i * 2 + 1 ∧ u = .int .i64 a.2))
  | [], j, u, h => by simp [vrCells] at h
  | a :: r, 0, u, h => ⟨0, a, rfl, .inl ⟨rfl, (Option.some.inj h).symm⟩⟩
  | a :: r, 1, u, h => ⟨0, a, rfl, .inr ⟨rfl, (Option.some.inj h).symm⟩⟩
  | a :: r, j + 2, u, h => by
    obtain ⟨i, b, hi, hj⟩ := vrCells_get r j u h
    refine ⟨i + 1, b, hi, ?_⟩
    rcases hj with ⟨rfl, hu⟩ | ⟨rfl, hu⟩
    · exact .inl ⟨by omega, hu⟩
    · exact .inr ⟨by omega, hu⟩
theorem vrCells_at : ∀ (l : List Vr) (i : Nat) (a : Vr), l[i]? = some a → (vrCells l)[i * 2]? = some (.int .i64 a.1) ∧ (vrCells l)[i * 2 + 1]? = some (.int .i64 a.2)
  | [], i, a, h => by simp at h
  | x :: r, 0, a, h => by obtain rfl := Option.some.inj h; exact ⟨rfl, rfl⟩
  | x :: r, i + 1, a, h => by
    have := vrCells_at r i a h
    rw [show (i + 1) * 2 = i * 2 + 2 by omega]
    exact this
theorem vrCells_one (l : List Vr) : ∀ u ∈ vrCells l, u.oneCell' = true := by
  intro u hu
  obtain ⟨j, hj⟩ := List.mem_iff_getElem?.1 hu
  obtain ⟨i, a, _, h⟩ := vrCells_get l j u hj
  rcases h with ⟨_, rfl⟩ | ⟨_, rfl⟩ <;> rfl
theorem ints_one (l : List Int) : ∀ u ∈ l.map (Value.int .i64), u.oneCell' = true := by
  intro u hu
  obtain ⟨a, _, rfl⟩ := List.mem_map.1 hu
  rfl
theorem RVrs.src {w : World} {A : Option Addr} {c : Nat} {l : List Vr} (h : RVrs w (.slice A l.length c) l) : SrcN w A l.length 2 (vrCells l) := by
  obtain ⟨A', c', he, h1, h2, h3⟩ := h
  cases he
  cases A with
  | none =>
    cases l with
    | nil => exact .inl ⟨rfl, rfl, rfl⟩
    | cons a r =>
      obtain ⟨_, _, hA, _⟩ := h3 0 a rfl
      cases hA
  | some ad =>
    refine .inr ⟨ad, rfl, vrCells_len l, fun j u hu => ?_⟩
    obtain ⟨i, a, hi, hj⟩ := vrCells_get l j u hu
    obtain ⟨b, o, hA, _, c0, c1, _⟩ := h3 i a hi
    cases hA
    rcases hj with ⟨rfl, rfl⟩ | ⟨rfl, rfl⟩
    · rw [add_at]; exact c0
    · rw [add_at]; exact c1
theorem RInts.src {w : World} {A : Option Addr} {c : Nat} {l : List Int} (h : RInts w (.slice A l.length c) l) : SrcN w A l.length 1 (l.map (Value.int .i64)) := by
  cases A with
  | none =>
    cases l with
    | nil => exact .inl ⟨rfl, rfl, rfl⟩
    | cons a r =>
      obtain ⟨_, _, hA, _⟩ := h.at_ (k := 0) (by simp)
      cases hA
  | some ad =>
    refine .inr ⟨ad, rfl, by simp, fun j u hu => ?_⟩
    rw [List.getElem?_map] at hu
    obtain ⟨s, hs, rfl⟩ := Option.map_eq_some_iff.1 hu
    obtain ⟨hlt, rfl⟩ := List.getElem?_eq_some_iff.1 hs
    obtain ⟨b, o, hA, _, c0, _⟩ := h.at_ hlt
    cases hA
    rw [add_at]; exact c0
theorem own_vrs {w : World} {B : Nat} {v : Value} {l : List Vr} {e : TypeId} (hok : ∀ x ∈ l, ok64 x.1 ∧ ok64 x.2) (h : w.ownsRow B e 2 v l.length (vrCells l)) : RVrs w v l := by
  rcases h.2 with ⟨rfl, h0⟩ | ⟨g, cap, cur, rfl, e2, e3, e4, e5, e6, e7⟩
  · have hL : l = [] := List.eq_nil_of_length_eq_zero h0
    subst hL
    exact RVrs.nil w
  · refine ⟨_, cap, rfl, e4, e5, fun i x hx => ?_⟩
    have hi : i < l.length := (List.getElem?_eq_some_iff.1 hx).1
    obtain ⟨q0, q1⟩ := vrCells_at l i x hx
    have hk := hok x (List.mem_of_getElem? hx)
    have hlen := vrCells_len l
    refine ⟨g, 0, rfl, (Array.getElem?_eq_some_iff.1 e3).1, ?_, ?_, hk.1, hk.2⟩
    · rw [Nat.zero_add, World.ownsRow.cellAt h (i * 2) (by omega), q0]
    · rw [Nat.zero_add, World.ownsRow.cellAt h (i * 2 + 1) (by omega), q1]
theorem RVrs.ok {w : World} {v : Value} {l : List Vr} (h : RVrs w v l) : ∀ x ∈ l, ok64 x.1 ∧ ok64 x.2 := fun x hx => by
  obtain ⟨i, hi⟩ := List.mem_iff_getElem?.1 hx
  obtain ⟨A, c, _, _, _, h3⟩ := h
  obtain ⟨_, _, _, _, _, _, h4, h5⟩ := h3 i x hi
  exact ⟨h4, h5⟩
theorem RInts.ok {w : World} {v : Value} {l : List Int} (h : RInts w v l) : ∀ x ∈ l, ok64 x := fun x hx => by
  obtain ⟨i, hi⟩ := List.mem_iff_getElem?.1 hx
  obtain ⟨A, c, _, _, _, h3⟩ := h
  obtain ⟨_, _, _, _, _, h4⟩ := h3 i x hi
  exact h4

set_option maxHeartbeats 4000000 in
set_option maxRecDepth 100000 in
theorem growV_any (n : Nat) (hn : n ≤ 1048576) (w : World) :
    Calls Tryz.prog 62 #[.slice none 0 0, .int .i64 n] w fun e w' => ∃ v, e = .returned v ∧ w'.ownsRow w.heap.size 80 2 v 0 [] ∧ Ext w w' := by
  obtain ⟨i0, hi, hz0, hz1, hz2⟩ := info_parts Tryz.iVar
  have happ := fun h0 => Lib.run_append_nil_zeros (P := Tryz.prog) w 76 3 76 80 i0 (Value.agg #[.int .i64 0, .int .i64 0]) .i64 .i64 Tryz.underlying76 Tryz.underlying3 hi hz0 n h0 (by omega) (by omega) (by rw [hz2]; omega)
  have hcapge := grownCap_ge w n 0 80
  have hcaple := grownCap_le_maxLen w n 0 80 (by unfold maxLen; omega)
  generalize grownCap w n 0 80 = cap2 at *
  by_cases h0 : n = 0
  · subst h0
    clear happ
    go_enter Tryz.func62, Tryz.ntmps62
    go_wp2
    go_ret
    exact ⟨_, rfl, own_nil', Ext.rf _⟩
  · have happ := happ (by omega)
    have hZs : (Builtin.zeroCells (Value.agg #[.int .i64 0, .int .i64 0]).cells n ++ Builtin.zeroCells (Value.agg #[.int .i64 0, .int .i64 0]).cells (cap2 - n)).size = cap2 * 2 := by simp [size_zeroCells, Value.cells]; omega
    generalize Builtin.zeroCells (Value.agg #[.int .i64 0, .int .i64 0]).cells n ++ Builtin.zeroCells (Value.agg #[.int .i64 0, .int .i64 0]).cells (cap2 - n) = Z at happ hZs
    have HAPP := Lib.hid happ
    clear happ
    go_enter Tryz.func62, Tryz.ntmps62
    go_wp2_with (at_builtin; refine Lib.wpList_append_run _ rfl _ _ _ _ rfl _ _ rfl rfl _ _ HAPP.out ?_)
    go_ret
    exact ⟨_, rfl, ⟨rfl, .inr ⟨_, _, Z, rfl, Nat.le_refl _, heapNew w _, Nat.zero_le _, hcaple, hZs, rfl⟩⟩, (Ext.al _ _).drew⟩
set_option maxHeartbeats 8000000 in
set_option maxRecDepth 100000 in
theorem concatV_any (va vb : Value) (la lb : List Vr) (b : Nat) (w : World) (ha : RVrs w va la) (hb : RVrs w vb lb) (c0 : w.cell? ⟨b, 0, none⟩ = some va) (c1 : w.cell? ⟨b, 1, none⟩ = some vb) (hn : la.length + lb.length ≤ 1048576) :
    Calls Tryz.prog 31 #[.slice (some ⟨b, 0, none⟩) 2 2] w fun e w' => (∃ u, e = .returned u ∧ RVrs w' u (la ++ lb)) ∧ Ext w w' := by
  have HA := Lib.hid ha; have HB := Lib.hid hb
  obtain ⟨Aa, ca, rfl, -, -⟩ := ha.form
  obtain ⟨Ab, cb, rfl, -, -⟩ := hb.form
  have HC0 := Lib.hid c0; have HC1 := Lib.hid c1
  have HOK := Lib.hid (fun x (hx : x ∈ la ++ lb) => by
    rcases List.mem_append.1 hx with h | h
    · exact ha.ok x h
    · exact hb.ok x h)
  clear ha hb c0 c1
  go_enter Tryz.func31, Tryz.ntmps31
  go_wp2
  go_loopw [3, 11] (fun s i wr => ∃ j : Nat, j ≤ 2 ∧ i = .int .i64 j ∧ s = .int .i64 (if j = 0 then 0 else if j = 1 then (la.length : Int) else (la.length : Int) + lb.length) ∧ Ext w wr) (fun _ i _ => 2 - (intOf i).toNat)
  case atStart => exact ⟨0, by omega, rfl, rfl, Ext.rf _⟩
  case round =>
    obtain ⟨j, hj, rfl, rfl, hx⟩ := hrel
    have HX := Lib.hid hx
    have c0 := hx.keep HC0.out
    have c1 := hx.keep HC1.out
    clear hx
    rcases (show j = 0 ∨ j = 1 ∨ j = 2 by omega) with rfl | rfl | rfl
    · rw [if_pos rfl]
      go_wp2
      exact ⟨⟨1, by omega, rfl, by simp, HX.out⟩, by simp [intOf]⟩
    · rw [if_neg (by decide), if_pos rfl]
      have e1 : ((1 : Nat) : Int) = 1 := rfl
      go_wp2
      exact ⟨⟨2, by omega, rfl, by simp, HX.out⟩, by simp [intOf]⟩
    · rw [if_neg (by decide), if_neg (by decide)]
      have HG : Hid (Calls Tryz.prog 62 #[.slice none 0 0, .int .i64 ((la.length : Int) + lb.length)] wr fun e w' => ∃ v, e = .returned v ∧ w'.ownsRow wr.heap.size 80 2 v 0 [] ∧ Ext wr w') := by
        have h := growV_any (la.length + lb.length) hn wr
        rw [show ((la.length + lb.length : Nat) : Int) = (la.length : Int) + lb.length by omega] at h
        exact h
      clear c0 c1
      go_wp2_with (go_at_call 62; (with_reducible refine (HG.out).mono ?_); rintro e w3 ⟨v3, rfl, ho3, hx3⟩)
      have HO3 := Lib.hid (own_base ho3 HX.out.size)
      have HX3 := Lib.hid (HX.out.tr hx3)
      clear ho3 hx3
      go_loopw [6, 27] (fun s i wr => ∃ (j : Nat) (L : List Vr), j ≤ 2 ∧ i = .int .i64 j ∧ ((j = 0 ∧ L = []) ∨ (j = 1 ∧ L = la) ∨ (j = 2 ∧ L = la ++ lb)) ∧ wr.ownsRow w.heap.size 80 2 s L.length (vrCells L) ∧ Ext w wr) (fun _ i _ => 2 - (intOf i).toNat)
      case atStart => exact ⟨0, [], by omega, rfl, .inl ⟨rfl, rfl⟩, HO3.out, HX3.out⟩
      case round =>
        obtain ⟨j, L, hj, rfl, hL, hown, hx⟩ := hrel
        have HX := Lib.hid hx
        have c0 := hx.keep HC0.out
        have c1 := hx.keep HC1.out
        have HO := Lib.hid hown
        obtain ⟨As, cs, rfl⟩ := own_form hown
        clear hx hown
        rcases hL with ⟨rfl, rfl⟩ | ⟨rfl, rfl⟩ | ⟨rfl, rfl⟩
        · have HS := Lib.hid ((HA.out.below HX.out).src)
          go_wp2_with (at_builtin; refine wpl_app (t := 76) (e := 80) (size := 2) (bytes := 16) Tryz.underlying76 Tryz.iVar rfl (by decide) (by decide) rfl (.tmp 31) (.tmp 32) rfl w.heap.size _ _ _ rfl HO.out _ la.length ca _ rfl HS.out (vrCells_one la) (by simp; omega) HX.out.size ?_; rintro v' w' ho' hg' -)
          have HO2 := Lib.hid ho'
          have HG2 := Lib.hid (Below.trans HX.out (grown_ext' (B := w.heap.size) hg' HO.out HX.out.size))
          clear ho' hg'
          go_wp2
          go_roundw
          case rel => exact ⟨1, _, by omega, by go_num, .inr (.inl ⟨rfl, rfl⟩), by simpa [vrCells] using HO2.out, HG2.out⟩
          case measure => simp [intOf]
        · have HS := Lib.hid ((HB.out.below HX.out).src)
          have e1 : ((1 : Nat) : Int) = 1 := rfl
          go_wp2_with (at_builtin; refine wpl_app (t := 76) (e := 80) (size := 2) (bytes := 16) Tryz.underlying76 Tryz.iVar rfl (by decide) (by decide) rfl (.tmp 31) (.tmp 32) rfl w.heap.size _ _ _ rfl HO.out _ lb.length cb _ rfl HS.out (vrCells_one lb) (by omega) HX.out.size ?_; rintro v' w' ho' hg' -)
          have HO2 := Lib.hid ho'
          have HG2 := Lib.hid (Below.trans HX.out (grown_ext' (B := w.heap.size) hg' HO.out HX.out.size))
          clear ho' hg'
          go_wp2
          go_roundw
          case rel => exact ⟨2, _, by omega, by go_num, .inr (.inr ⟨rfl, rfl⟩), by rw [List.length_append, vrCells_append]; exact HO2.out, HG2.out⟩
          case measure => simp [intOf]
        · go_wp2
          go_ret
          exact ⟨⟨_, rfl, own_vrs HOK.out HO.out⟩, HX.out⟩

set_option maxHeartbeats 4000000 in
set_option maxRecDepth 100000 in
theorem growI_any (n : Nat) (hn : n ≤ 1048576) (w : World) :
    Calls Tryz.prog 63 #[.slice none 0 0, .int .i64 n] w fun e w' => ∃ v, e = .returned v ∧ w'.ownsRow w.heap.size 3 1 v 0 [] ∧ Ext w w' := by
  obtain ⟨i0, hi, hz0, hz1, hz2⟩ := info_parts Tryz.iInt
  have happ := fun h0 => Lib.run_append_nil_zeros (P := Tryz.prog) w 31 3 31 3 i0 (Value.int .i64 0) .i64 .i64 Tryz.underlying31 Tryz.underlying3 hi hz0 n h0 (by omega) (by omega) (by rw [hz2]; omega)
  have hcapge := grownCap_ge w n 0 3
  have hcaple := grownCap_le_maxLen w n 0 3 (by unfold maxLen; omega)
  generalize grownCap w n 0 3 = cap2 at *
  by_cases h0 : n = 0
  · subst h0
    clear happ
    go_enter Tryz.func63, Tryz.ntmps63
    go_wp2
    go_ret
    exact ⟨_, rfl, own_nil', Ext.rf _⟩
  · have happ := happ (by omega)
    have hZs : (Builtin.zeroCells (Value.int .i64 0).cells n ++ Builtin.zeroCells (Value.int .i64 0).cells (cap2 - n)).size = cap2 * 1 := by simp [size_zeroCells, Value.cells]; omega
    generalize Builtin.zeroCells (Value.int .i64 0).cells n ++ Builtin.zeroCells (Value.int .i64 0).cells (cap2 - n) = Z at happ hZs
    have HAPP := Lib.hid happ
    clear happ
    go_enter Tryz.func63, Tryz.ntmps63
    go_wp2_with (at_builtin; refine Lib.wpList_append_run _ rfl _ _ _ _ rfl _ _ rfl rfl _ _ HAPP.out ?_)
    go_ret
    exact ⟨_, rfl, ⟨rfl, .inr ⟨_, _, Z, rfl, Nat.le_refl _, heapNew w _, Nat.zero_le _, hcaple, hZs, rfl⟩⟩, (Ext.al _ _).drew⟩
set_option maxHeartbeats 8000000 in
set_option maxRecDepth 100000 in
theorem concatI_any (va vb : Value) (la lb : List Int) (b : Nat) (w : World) (ha : RInts w va la) (hb : RInts w vb lb) (c0 : w.cell? ⟨b, 0, none⟩ = some va) (c1 : w.cell? ⟨b, 1, none⟩ = some vb) (hn : la.length + lb.length ≤ 1048576) :
    Calls Tryz.prog 33 #[.slice (some ⟨b, 0, none⟩) 2 2] w fun e w' => (∃ u, e = .returned u ∧ RInts w' u (la ++ lb)) ∧ Ext w w' := by
  have HA := Lib.hid ha; have HB := Lib.hid hb
  obtain ⟨Aa, ca, rfl, -, -⟩ := ha.form
  obtain ⟨Ab, cb, rfl, -, -⟩ := hb.form
  have HC0 := Lib.hid c0; have HC1 := Lib.hid c1
  have HOK := Lib.hid (fun x (hx : x ∈ la ++ lb) => by
    rcases List.mem_append.1 hx with h | h
    · exact ha.ok x h
    · exact hb.ok x h)
  clear ha hb c0 c1
  go_enter Tryz.func33, Tryz.ntmps33
  go_wp2
  go_loopw [3, 11] (fun s i wr => ∃ j : Nat, j ≤ 2 ∧ i = .int .i64 j ∧ s = .int .i64 (if j = 0 then 0 else if j = 1 then (la.length : Int) else (la.length : Int) + lb.length) ∧ Ext w wr) (fun _ i _ => 2 - (intOf i).toNat)
  case atStart => exact ⟨0, by omega, rfl, rfl, Ext.rf _⟩
  case round =>
    obtain ⟨j, hj, rfl, rfl, hx⟩ := hrel
    have HX := Lib.hid hx
    have c0 := hx.keep HC0.out
    have c1 := hx.keep HC1.out
    clear hx
    rcases (show j = 0 ∨ j = 1 ∨ j = 2 by omega) with rfl | rfl | rfl
    · rw [if_pos rfl]
      go_wp2
      exact ⟨⟨1, by omega, rfl, by simp, HX.out⟩, by simp [intOf]⟩
    · rw [if_neg (by decide), if_pos rfl]
      have e1 : ((1 : Nat) : Int) = 1 := rfl
      go_wp2
      exact ⟨⟨2, by omega, rfl, by simp, HX.out⟩, by simp [intOf]⟩
    · rw [if_neg (by decide), if_neg (by decide)]
      have HG : Hid (Calls Tryz.prog 63 #[.slice none 0 0, .int .i64 ((la.length : Int) + lb.length)] wr fun e w' => ∃ v, e = .returned v ∧ w'.ownsRow wr.heap.size 3 1 v 0 [] ∧ Ext wr w') := by
        have h := growI_any (la.length + lb.length) hn wr
        rw [show ((la.length + lb.length : Nat) : Int) = (la.length : Int) + lb.length by omega] at h
        exact h
      clear c0 c1
      go_wp2_with (go_at_call 63; (with_reducible refine (HG.out).mono ?_); rintro e w3 ⟨v3, rfl, ho3, hx3⟩)
      have HO3 := Lib.hid (own_base ho3 HX.out.size)
      have HX3 := Lib.hid (HX.out.tr hx3)
      clear ho3 hx3
      go_loopw [6, 27] (fun s i wr => ∃ (j : Nat) (L : List Int), j ≤ 2 ∧ i = .int .i64 j ∧ ((j = 0 ∧ L = []) ∨ (j = 1 ∧ L = la) ∨ (j = 2 ∧ L = la ++ lb)) ∧ wr.ownsRow w.heap.size 3 1 s L.length (L.map (Value.int .i64)) ∧ Ext w wr) (fun _ i _ => 2 - (intOf i).toNat)
      case atStart => exact ⟨0, [], by omega, rfl, .inl ⟨rfl, rfl⟩, HO3.out, HX3.out⟩
      case round =>
        obtain ⟨j, L, hj, rfl, hL, hown, hx⟩ := hrel
        have HX := Lib.hid hx
        have c0 := hx.keep HC0.out
        have c1 := hx.keep HC1.out
        have HO := Lib.hid hown
        obtain ⟨As, cs, rfl⟩ := own_form hown
        clear hx hown
        rcases hL with ⟨rfl, rfl⟩ | ⟨rfl, rfl⟩ | ⟨rfl, rfl⟩
        · have HS := Lib.hid ((HA.out.below HX.out).src)
          go_wp2_with (at_builtin; refine wpl_app (t := 31) (e := 3) (size := 1) (bytes := 8) Tryz.underlying31 Tryz.iInt rfl (by decide) (by decide) rfl (.tmp 31) (.tmp 32) rfl w.heap.size _ _ _ rfl HO.out _ la.length ca _ rfl HS.out (ints_one la) (by simp; omega) HX.out.size ?_; rintro v' w' ho' hg' -)
          have HO2 := Lib.hid ho'
          have HG2 := Lib.hid (Below.trans HX.out (grown_ext' (B := w.heap.size) hg' HO.out HX.out.size))
          clear ho' hg'
          go_wp2
          go_roundw
          case rel => exact ⟨1, _, by omega, by go_num, .inr (.inl ⟨rfl, rfl⟩), by simpa [List.map_nil] using HO2.out, HG2.out⟩
          case measure => simp [intOf]
        · have HS := Lib.hid ((HB.out.below HX.out).src)
          have e1 : ((1 : Nat) : Int) = 1 := rfl
          go_wp2_with (at_builtin; refine wpl_app (t := 31) (e := 3) (size := 1) (bytes := 8) Tryz.underlying31 Tryz.iInt rfl (by decide) (by decide) rfl (.tmp 31) (.tmp 32) rfl w.heap.size _ _ _ rfl HO.out _ lb.length cb _ rfl HS.out (ints_one lb) (by omega) HX.out.size ?_; rintro v' w' ho' hg' -)
          have HO2 := Lib.hid ho'
          have HG2 := Lib.hid (Below.trans HX.out (grown_ext' (B := w.heap.size) hg' HO.out HX.out.size))
          clear ho' hg'
          go_wp2
          go_roundw
          case rel => exact ⟨2, _, by omega, by go_num, .inr (.inr ⟨rfl, rfl⟩), by rw [List.length_append, List.map_append]; exact HO2.out, HG2.out⟩
          case measure => simp [intOf]
        · go_wp2
          go_ret
          exact ⟨⟨_, rfl, own_ints HOK.out HO.out⟩, HX.out⟩

set_option maxHeartbeats 4000000 in
set_option maxRecDepth 100000 in
theorem variables_any (s : Int) (hs : ok64 s) (v : Value) (l : List Int) (w : World) (h : RInts w v l) (hl : l.length ≤ 1048576) :
    Calls Tryz.prog 32 #[.int .i64 s, v] w fun e w' => (∃ u, e = .returned u ∧ RVrs w' u (varsOf s l)) ∧ Ext w w' := by
  have HR := Lib.hid h
  have HS := Lib.hid hs
  obtain ⟨A, c, rfl, hc, hm⟩ := h.form
  clear h hs
  unfold maxLen at hm
  go_enter Tryz.func32, Tryz.ntmps32
  go_wp2
  go_loopw [5, 10] (fun s' i wr => ∃ k : Nat, k ≤ l.length ∧ i = .int .i64 k ∧ wr.ownsRow w.heap.size 80 2 s' k (vrCells (varsOf s (l.take k))) ∧ Ext w wr) (fun _ i _ => l.length - (intOf i).toNat)
  case atStart => exact ⟨0, Nat.zero_le _, rfl, own_nil', Ext.rf _⟩
  case round =>
    obtain ⟨k, hk, rfl, hown, hb⟩ := hrel
    have HO := Lib.hid hown
    have HB := Lib.hid hb
    obtain ⟨As, cs, rfl⟩ := own_form hown
    clear hown hb
    by_cases hlt : k < l.length
    · obtain ⟨b, o, rfl, hbl, h0, h1⟩ := HR.out.at_ hlt
      have h0 := HB.out.keep h0
      have HT : Hid (l.take (k + 1) = l.take k ++ [l[k]]) := List.take_succ_eq_append_getElem hlt
      generalize l[k] = a at *
      go_wp2_with (at_builtin; refine wpl_app (t := 76) (e := 80) (size := 2) (bytes := 16) Tryz.underlying76 Tryz.iVar rfl (by decide) (by decide) rfl (.tmp 14) (.tmp 18) rfl w.heap.size _ k _ rfl (own_below HO.out (Ext.al _ _)) _ 1 1 [.int .i64 s, .int .i64 a] rfl (src_two (heapNew _ _)) (two_mem rfl rfl) (by omega) (Nat.le_trans HB.out.size (by simp; try omega)) ?_; rintro v' w' ho' hg' -)
      have HO2 := Lib.hid ho'
      have HG2 := Lib.hid (Below.trans (HB.out.tr (Ext.al _ _)) (grown_ext' (B := w.heap.size) hg' (own_below HO.out (Ext.al _ _)) (Nat.le_trans HB.out.size (by simp; try omega))))
      clear ho' hg'
      go_wp2
      go_roundw
      case rel => exact ⟨k + 1, by omega, by go_num, by rw [HT.out]; unfold varsOf; rw [List.map_append, vrCells_append]; exact HO2.out, HG2.out⟩
      case measure => simp [intOf]; omega
    · have hkl : k = l.length := by omega
      have HK : Hid (l.take k = l) := List.take_of_length_le (by omega)
      subst hkl
      go_wp2
      go_ret
      have hq := HO.out
      rw [HK.out] at hq
      exact ⟨⟨_, rfl, own_vrs (fun x hx => by
        unfold varsOf at hx
        obtain ⟨a, ha, rfl⟩ := List.mem_map.1 hx
        exact ⟨HS.out, HR.out.ok a ha⟩) (by unfold varsOf; rw [List.length_map]; exact hq)⟩, HB.out⟩
end Go.Proofs.YtkdhhcidpklgoaaGreatDoor

/- kind: areTypes, isValid. -/
namespace Go.Proofs.YtkdhhcidpklgoaaGreatDoor
open Go.RowKit Go.Shelf
attribute [local go_sem] Oper.semAt_some

set_option maxHeartbeats 4000000 in
set_option maxRecDepth 100000 in
theorem areTypes_any (vd vf v : Value) (C : Cg) (l : List Int) (w : World) (hC : RCg w vd vf C) (h : RInts w v l) (hl : l.length ≤ 1048576) :
    Calls Tryz.prog 34 #[cV vd vf, v] w fun e w' => e = .returned (.bool (typesOK C l)) ∧ Ext w w' := by
  have HT := Lib.hid (fun ty w' (hw : Ext w w') => isType_any vd vf C ty w' (hC.below hw).d)
  have HR := Lib.hid h
  obtain ⟨A, c, rfl, -, hm⟩ := h.form
  obtain ⟨Ad, cd, rfl, -, -⟩ := hC.d.form
  obtain ⟨Af, cf, rfl, -, -⟩ := hC.f.form
  unfold maxLen at hm
  have HE1 := Lib.hid (Ext.al w (.cells #[.slice Ad C.decls.length cd, .slice Af C.funs.length cf] 25))
  have HB1 := Lib.hid (heapNew w (.cells #[.slice Ad C.decls.length cd, .slice Af C.funs.length cf] 25))
  clear h hC
  go_enter Tryz.func34, Tryz.ntmps34
  go_wp2
  generalize w.alloc _ = w1 at *
  go_loopw [9] (fun i wr => ∃ k : Nat, k ≤ l.length ∧ i = .int .i64 k ∧ typesOK C l = typesOK C (l.drop k) ∧ Ext w1 wr) (fun i _ => l.length - (intOf i).toNat)
  case atStart => exact ⟨0, Nat.zero_le _, rfl, rfl, Ext.rf _⟩
  case round =>
    obtain ⟨k, hk, rfl, hall, hx⟩ := hrel
    have HALL := Lib.hid hall; have HX := Lib.hid hx
    have hb := hx.lt HB1.out
    have b0 := cellAt hb 0
    have b1 := cellAt hb 1
    clear hall hx hb
    by_cases hlt : k < l.length
    · obtain ⟨b, o, rfl, hbl, y0, -⟩ := HR.out.at_ hlt
      have HST : Hid (typesOK C (l.drop k) = (isTypeC C l[k] && typesOK C (l.drop (k + 1)))) := all_step (p := isTypeC C) hlt
      have y0 := (HE1.out.tr HX.out).keep y0
      generalize l[k] = a at *
      have hk2 : (k : Int) < l.length := by omega
      obtain ⟨r, hr⟩ : ∃ r, isTypeC C a = r := ⟨_, rfl⟩
      have HTA : Hid (Calls Tryz.prog 64 #[cV (.slice Ad C.decls.length cd) (.slice Af C.funs.length cf), .int .i64 a] wr fun e w' => e = .returned (.bool r) ∧ Ext wr w') := by
        have := HT.out a wr (HE1.out.tr HX.out)
        rw [hr] at this; exact this
      rw [hr] at HST
      clear hr
      cases r
      · go_wp2_with (go_at_call 64; (with_reducible refine (HTA.out).mono ?_); rintro e w3 ⟨rfl, hx3⟩)
        go_ret
        exact ⟨ret_bool (by rw [HALL.out, HST.out]; rfl), HE1.out.tr (HX.out.tr hx3)⟩
      · go_wp2_with (go_at_call 64; (with_reducible refine (HTA.out).mono ?_); rintro e w3 ⟨rfl, hx3⟩)
        exact ⟨⟨k + 1, by omega, by go_num, by rw [HALL.out, HST.out]; rfl, HX.out.tr hx3⟩, by simp [intOf]; omega⟩
    · have hR : Hid (typesOK C l = true) := by show _ = _; rw [HALL.out, List.drop_eq_nil_of_le (by omega)]; rfl
      go_wp2
      go_ret
      exact ⟨ret_bool hR.out.symm, HE1.out.tr HX.out⟩
set_option maxHeartbeats 4000000 in
set_option maxRecDepth 100000 in
theorem isValid_any (vd vf : Value) (C : Cg) (k : Nat) (t : Nd) (va vb vs : Value) (l : List Vr) (w : World) (hC : RCg w vd vf C) (hS : ShC C) (htab : Tabs w) (ht : RNd w k t va vb) (hb : BN t) (hl : RVrs w vs l) (hll : l.length ≤ 1048576) :
    Calls Tryz.prog 35 #[cV vd vf, vs, nV t va vb] w fun e w' => e = .returned (.bool ((sizeC 30000 4000 t).2 && !decide (sortN C (addS (fun _ => false) l) t = 3))) ∧ Ext w w' := by
  have HSZ := Lib.hid (fun w' (hw : Ext w w') => size_any 30000 4000 (by decide) (by decide) (cntN t) t va vb w' (ht.cnt.below hw) (by have := hb.c; omega))
  have HIN := Lib.hid (fun w' (hw : Ext w w') => in_any vd vf C w' (hC.below hw) hS (htab.ext hw) k t va vb (ht.below hw) hb vs l (hl.below hw) hll)
  obtain ⟨Ad, cd, rfl, -, -⟩ := hC.d.form
  obtain ⟨Af, cf, rfl, -, -⟩ := hC.f.form
  obtain ⟨-, ⟨Ax, cx, rfl, -, -⟩, ⟨Bx, dx, rfl, -, -⟩⟩ := ht.form
  obtain ⟨Al, cl, rfl, -, -⟩ := hl.form
  have HE2 := Lib.hid (Ext.al2 w (.cells #[.slice Ad C.decls.length cd, .slice Af C.funs.length cf] 25) (.cells #[.int .i64 t.op, .int .i64 t.n, .int .i64 t.ty, .slice Ax t.args.length cx, .slice Bx t.brs.length dx] 36))
  have HB1 := Lib.hid (Ext.lt (Ext.al (w.alloc (.cells #[.slice Ad C.decls.length cd, .slice Af C.funs.length cf] 25)) (.cells #[.int .i64 t.op, .int .i64 t.n, .int .i64 t.ty, .slice Ax t.args.length cx, .slice Bx t.brs.length dx] 36)) (heapNew w (.cells #[.slice Ad C.decls.length cd, .slice Af C.funs.length cf] 25)))
  have HB2 := Lib.hid (heapNew2 w (.cells #[.slice Ad C.decls.length cd, .slice Af C.funs.length cf] 25) (.cells #[.int .i64 t.op, .int .i64 t.n, .int .i64 t.ty, .slice Ax t.args.length cx, .slice Bx t.brs.length dx] 36))
  obtain ⟨z1, hz1⟩ : ∃ z1, (sizeC 30000 4000 t).1 = z1 := ⟨_, rfl⟩
  obtain ⟨z2, hz2⟩ : ∃ z2, (sizeC 30000 4000 t).2 = z2 := ⟨_, rfl⟩
  obtain ⟨s, hs⟩ : ∃ s, sortN C (addS (fun _ => false) l) t = s := ⟨_, rfl⟩
  rw [hz1, hz2] at HSZ
  rw [hs] at HIN
  rw [hz2, hs]
  clear hC hS htab ht hb hl hz1 hz2 hs
  cases z2
  · go_enter Tryz.func35, Tryz.ntmps35
    go_wp2_with (go_at_call 65; (with_reducible refine (HSZ.out _ HE2.out).mono ?_); rintro e w3 ⟨rfl, hx3⟩)
    go_ret
    exact ⟨ret_bool (by simp), HE2.out.tr hx3⟩
  · go_enter Tryz.func35, Tryz.ntmps35
    go_wp2_with (first
      | (go_at_call 65; (with_reducible refine (HSZ.out _ HE2.out).mono ?_); rintro e w3 ⟨rfl, hx3⟩; have HX3 := Lib.hid (HE2.out.tr hx3); have e1 := hx3.lt HB1.out; have e2 := hx3.lt HB2.out; have p0 := cellAt e1 0; have p1 := cellAt e1 1; have n0 := cellAt e2 0; have n1 := cellAt e2 1; have n2 := cellAt e2 2; have n3 := cellAt e2 3; have n4 := cellAt e2 4; clear hx3 e1 e2)
      | (go_at_call 66; (with_reducible refine (HIN.out _ HX3.out).mono ?_); rintro e w4 ⟨rfl, hx4⟩))
    go_ret
    exact ⟨ret_bool (by by_cases h : s = 3 <;> simp [h]), HX3.out.tr hx4⟩
end Go.Proofs.YtkdhhcidpklgoaaGreatDoor
