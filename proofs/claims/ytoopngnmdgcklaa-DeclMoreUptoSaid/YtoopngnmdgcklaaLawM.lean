import Derived.Test.YtoopngnmdgcklaaAwake
import Derived.Test.YtoopngnmdgcklaaCopy
import Derived.Test.YtoopngnmdgcklaaPure8
namespace Go.Proofs.Ytoopngnmdgcklaa
open Go.RowKit

theorem dcCells_append : ∀ (l m : List Decl) (vs us : List Value), vs.length = l.length → dcCells (l ++ m) (vs ++ us) = dcCells l vs ++ dcCells m us
  | [], m, [], us, _ => rfl
  | [], m, _ :: _, us, h => by simp at h
  | d :: r, m, [], us, h => by simp at h
  | d :: r, m, v :: q, us, h => by
    have := dcCells_append r m q us (by simpa using h)
    show .string d.name :: .bool d.codata :: v :: dcCells (r ++ m) (q ++ us) = _
    rw [this]; rfl
theorem dcCells_get : ∀ (l : List Decl) (vs : List Value), vs.length = l.length → ∀ (j : Nat) (u : Value), (dcCells l vs)[j]? = some u → ∃ i d v, l[i]? = some d ∧ vs[i]? = some v ∧ ((j = i * 3 ∧ u = .string d.name) ∨ (j = i * 3 + 1 ∧ u = .bool d.codata) ∨ (j = i * 3 + 2 ∧ u = v))
  | [], [], _, j, u, h => by simp [dcCells] at h
  | [], _ :: _, h, _, _, _ => by simp at h
  | d :: r, [], h, _, _, _ => by simp at h
  | d :: r, v :: q, _, 0, u, h => ⟨0, d, v, rfl, rfl, .inl ⟨rfl, (Option.some.inj h).symm⟩⟩
  | d :: r, v :: q, _, 1, u, h => ⟨0, d, v, rfl, rfl, .inr (.inl ⟨rfl, (Option.some.inj h).symm⟩)⟩
  | d :: r, v :: q, _, 2, u, h => ⟨0, d, v, rfl, rfl, .inr (.inr ⟨rfl, (Option.some.inj h).symm⟩)⟩
  | d :: r, v :: q, hl, j + 3, u, h => by
    obtain ⟨i, e, w, hi, hw, hj⟩ := dcCells_get r q (by simpa using hl) j u h
    refine ⟨i + 1, e, w, hi, hw, ?_⟩
    rcases hj with ⟨rfl, hu⟩ | ⟨rfl, hu⟩ | ⟨rfl, hu⟩
    · exact .inl ⟨by omega, hu⟩
    · exact .inr (.inl ⟨by omega, hu⟩)
    · exact .inr (.inr ⟨by omega, hu⟩)
theorem vals_of {α β : Type} : ∀ (l : List α) (P : Nat → α → β → Prop), (∀ i a, l[i]? = some a → ∃ b, P i a b) → ∃ vs : List β, vs.length = l.length ∧ ∀ i a b, l[i]? = some a → vs[i]? = some b → P i a b
  | [], _, _ => ⟨[], rfl, fun i a b h => by simp at h⟩
  | a :: r, P, h => by
    obtain ⟨b, hb⟩ := h 0 a rfl
    obtain ⟨vs, hl, hp⟩ := vals_of r (fun i => P (i + 1)) (fun i c hc => h (i + 1) c hc)
    refine ⟨b :: vs, by simp [hl], fun i c d hc hd => ?_⟩
    match i, hc, hd with
    | 0, hc, hd =>
      obtain rfl := Option.some.inj hc
      obtain rfl := Option.some.inj hd
      exact hb
    | i + 1, hc, hd => exact hp i c d hc hd
theorem RDecls.src {w : World} {A : Option Addr} {c : Nat} {l : List Decl} (h : RDecls w (.slice A l.length c) l) : ∃ vs : List Value, vs.length = l.length ∧ SrcN w A l.length 3 (dcCells l vs) ∧ (∀ (i : Nat) (vx : Value) (d : Decl), vs[i]? = some vx → l[i]? = some d → RXtors w vx d.xtors) := by
  obtain ⟨A', c', he, h1, h2, h3⟩ := h
  cases he
  cases A with
  | none =>
    cases l with
    | nil => exact ⟨[], rfl, .inl ⟨rfl, rfl, rfl⟩, fun i vx d h => by simp at h⟩
    | cons a r =>
      obtain ⟨_, _, _, hA, _⟩ := h3 0 a rfl
      cases hA
  | some ad =>
    obtain ⟨vs, hl, hp⟩ := vals_of l (fun (i : Nat) (d : Decl) (va : Value) => ∃ b o, some ad = some ⟨b, o, none⟩ ∧ w.cell? ⟨b, o + i * 3, none⟩ = some (.string d.name) ∧ w.cell? ⟨b, o + i * 3 + 1, none⟩ = some (.bool d.codata) ∧ w.cell? ⟨b, o + i * 3 + 2, none⟩ = some va ∧ RXtors w va d.xtors) (fun i d hi => by
      obtain ⟨b, o, va, e1, _, e3, e4, e5, e6, _⟩ := h3 i d hi
      exact ⟨va, b, o, e1, e3, e4, e5, e6⟩)
    refine ⟨vs, hl, .inr ⟨ad, rfl, dcCells_len l vs hl, fun j u hu => ?_⟩, fun i vx d hv hd => ?_⟩
    · obtain ⟨i, d, v, hd, hv, hj⟩ := dcCells_get l vs hl j u hu
      obtain ⟨b, o, hA, c0, c1, c2, _⟩ := hp i d v hd hv
      cases hA
      rcases hj with ⟨rfl, rfl⟩ | ⟨rfl, rfl⟩ | ⟨rfl, rfl⟩
      · rw [add_at]; exact c0
      · rw [add_at]; exact c1
      · rw [add_at]; exact c2
    · obtain ⟨_, _, _, _, _, _, hx⟩ := hp i d vx hd hv
      exact hx
theorem dcCells_one {w : World} {l : List Decl} {vs : List Value} (hl : vs.length = l.length) (hx : ∀ (i : Nat) (vx : Value) (d : Decl), vs[i]? = some vx → l[i]? = some d → RXtors w vx d.xtors) : ∀ u ∈ dcCells l vs, u.oneCell' = true := by
  intro u hu
  obtain ⟨j, hj⟩ := List.mem_iff_getElem?.1 hu
  obtain ⟨i, d, v, hd, hv, h⟩ := dcCells_get l vs hl j u hj
  rcases h with ⟨_, rfl⟩ | ⟨_, rfl⟩ | ⟨_, rfl⟩
  · rfl
  · rfl
  · obtain ⟨A, c, rfl, _⟩ := (hx i _ d hv hd).form
    rfl
theorem RDecls.of_row {w : World} {B : Nat} {v : Value} {l : List Decl} {vs : List Value} (hl : vs.length = l.length) (hr : w.ownsRow B 48 3 v l.length (dcCells l vs)) (hx : ∀ (i : Nat) (vx : Value) (d : Decl), vs[i]? = some vx → l[i]? = some d → RXtors w vx d.xtors) (hs : ∀ d ∈ l, d.name.size ≤ maxLen) : RDecls w v l := by
  obtain ⟨A, c, rfl, h1, h2, h3⟩ := row_form hr
  refine ⟨A, c, rfl, h1, h2, fun i d hi => ?_⟩
  have hil : i < vs.length := by rw [hl]; exact (List.getElem?_eq_some_iff.1 hi).1
  have hv := List.getElem?_eq_getElem hil
  obtain ⟨e1, e2, e3⟩ := dcCells_at l vs hl i d _ hi hv
  obtain ⟨g, rfl, hlt, c1⟩ := h3 _ _ e1
  obtain ⟨g', hg', _, c2⟩ := h3 _ _ e2
  cases hg'
  obtain ⟨g', hg', _, c3⟩ := h3 _ _ e3
  cases hg'
  exact ⟨g, 0, vs[i], rfl, hlt, by rw [Nat.zero_add]; exact c1, by rw [Nat.zero_add]; exact c2, by rw [Nat.zero_add]; exact c3, hx i _ d hv hi, hs d (List.mem_of_getElem? hi)⟩
/-- The copy, and what was appended to it. -/
theorem KD.more {w w8 w9 : World} {v v' vm vl : Value} {l m : List Decl} {vxs us : List Value} (h : KD w8 w.heap.size v l vxs) (hl : RDecls w vl l) (hm : RDecls w vm m) (hus : us.length = m.length) (hux : ∀ (i : Nat) (vx : Value) (d : Decl), us[i]? = some vx → m[i]? = some d → RXtors w vx d.xtors) (hE : Ext w w9)
    (hg : w8.grownBy w9 v.ownBlock) (hr : w9.ownsRow w.heap.size 48 3 v' (l.length + m.length) (dcCells l vxs ++ dcCells m us)) : RDecls w9 v' (l ++ m) := by
  have hr2 : w9.ownsRow w.heap.size 48 3 v' (l ++ m).length (dcCells (l ++ m) (vxs ++ us)) := by
    rw [dcCells_append _ _ _ _ h.len, List.length_append]; exact hr
  refine RDecls.of_row (by simp [h.len, hus]) hr2 (fun i vx d hv hd => ?_) (fun d hd => ?_)
  · by_cases hi : i < l.length
    · rw [List.getElem?_append_left (by rw [h.len]; exact hi)] at hv
      rw [List.getElem?_append_left hi] at hd
      exact ((h.xtors i vx d hv hd).other h.row hg).reads (sizes_d hl d (List.mem_of_getElem? hd)).2
    · rw [List.getElem?_append_right (by rw [h.len]; omega), h.len] at hv
      rw [List.getElem?_append_right (by omega)] at hd
      exact (hux _ vx d hv hd).below hE
  · rcases List.mem_append.1 hd with hd | hd
    · exact (sizes_d hl d hd).1
    · exact (sizes_d hm d hd).1
theorem RBools.take {w : World} {l : List Bool} {A : Option Addr} {n c : Nat} (h : RBools w (.slice A l.length c) l) (hn : n ≤ l.length) : RBools w (.slice A n c) (l.take n) := by
  obtain ⟨A', c', he, h1, h2, h3⟩ := h
  cases he
  exact ⟨A, c, by simp [Nat.min_eq_left hn], by simp [Nat.min_eq_left hn]; omega, h2, fun i a hi => h3 i a (getElem?_take_some hi)⟩

theorem wpl_row {t e size bytes : Nat} {z : Value} (hu : Try.prog.underlying t = some (.slice e)) (hinf : (Try.prog.info? e).map (fun i => (i.zero, i.size, i.bytes)) = some (some z, size, bytes)) (hzs : z.cells.size = size) (hsz : 0 < size)
    {w : World} {ops : Array Oper} {rest : List Oper} {o : Oper} {a : Act} {Q : Exit → Act → World → Prop} (hgd : o.guard = none) (s x : Operand)
    (ho : o.op = .call { callee := .builtin .append, args := #[s, x], argTypes := #[t, t] })
    (B : Nat) (v : Value) (n : Nat) (xs : List Value) (hs : a.eval s = v) (hown : w.ownsRow B e size v n xs)
    (A : Option Addr) (m c : Nat) (news : List Value) (hx : a.eval x = .slice A m c) (hsrc : SrcN w A m size news) (h1 : ∀ u ∈ news, u.oneCell' = true)
    (hnm : n + m ≤ maxLen) (hby : (n + m) * bytes ≤ 140737488355328) (hB : B ≤ w.heap.size)
    (h : ∀ v' w', w'.ownsRow B e size v' (n + m) (xs ++ news) → w.grownBy w' v.ownBlock → wpList Try.prog ops Q rest (a.put o.dst v') w') : wpList Try.prog ops Q (o :: rest) a w :=
  wpList_plain hgd fun _ hK => app_row hu hinf hzs hsz s x ho B v n xs hs hown A m c news hx hsrc h1 hnm hby hB fun v' w' h1 h2 _ => hK _ _ (h v' w' h1 h2)
theorem SrcN.ext {w w' : World} {A : Option Addr} {m size : Nat} {news : List Value} (h : SrcN w A m size news) (hb : Ext w w') : SrcN w' A m size news := by
  rcases h with h | ⟨ad, h1, h2, h3⟩
  · exact .inl h
  · exact .inr ⟨ad, h1, h2, fun j u hj => hb.keep (h3 j u hj)⟩

set_option maxHeartbeats 4000000 in
set_option maxRecDepth 100000 in
theorem declMore_any (v vm : Value) (l m : List Decl) (w : World) (h : RDecls w v l) (h' : RDecls w vm m) (hm20 : m.length ≤ 1048576) :
    Calls Try.prog 6 #[v, vm] w fun e w' => e = .returned (.bool true) ∧ Ext w w' := by
  have HR := Lib.hid h
  have HRM := Lib.hid h'
  obtain ⟨A, c, rfl, hc, hm⟩ := h.form
  obtain ⟨Am, cm, rfl, hcm, hmm⟩ := h'.form
  clear h h'
  unfold maxLen at hm hmm
  go_enter Try.func6, Try.ntmps6
  go_wp2_with fail
  (with_reducible refine (Is_any _ l _ HR.out).mono ?_)
  rw [← valid_is]
  rintro e w2 ⟨rfl, hb⟩
  have HE2 := Lib.hid hb
  clear hb
  cases hq : validB l
  · clear hq
    go_wp2_with fail
    (with_reducible refine (awake_any _).mono ?_)
    rintro e w3 ⟨rfl, hb⟩
    have HE3 := Lib.hid (HE2.out.tr hb)
    clear hb
    go_wp2
    go_ret
    exact ⟨rfl, HE3.out⟩
  · have HQ := Lib.hid hq
    have HF := Lib.hid (Fine.of hq)
    have h8 := HF.out.few
    clear hq
    go_wp2
    go_loopw [23] (fun i wr => ∃ k : Nat, k ≤ l.length ∧ i = .int .i64 k ∧ Ext w wr) (fun i _ => l.length - (intOf i).toNat)
    case atStart => exact ⟨0, Nat.zero_le _, rfl, HE2.out⟩
    case round =>
      obtain ⟨k, hk, rfl, hE⟩ := hrel
      obtain ⟨wb, rfl⟩ : ∃ wb : World, wb = wr := ⟨_, rfl⟩
      have HE := Lib.hid hE
      clear hE HE2
      by_cases hlt : k < l.length
      · obtain ⟨b2, o2, vx, rfl, hbl2, g0, g1, g2, g3, g4⟩ := HR.out.at_ hlt
        have g0 := HE.out.keep g0
        have g1 := HE.out.keep g1
        have g2 := HE.out.keep g2
        have hxl := HF.out.xtors _ (List.getElem_mem hlt)
        have HVF : Hid (∀ (r : Nat) (x : Xtor), (l[k]).xtors[r]? = some x → fndP l x.name = ((k : Int) + 1, (r : Int), 0)) := fun r x hx => by
          have := fndP_hit HQ.out (valid_find HQ.out (List.getElem?_eq_getElem hlt) hx)
          rw [this]
          congr 1
        generalize l[k] = d at *
        obtain ⟨dn, cd, xs⟩ := d
        dsimp only at *
        obtain ⟨A2, c2, rfl, hc2, hm2⟩ := g3.form
        unfold maxLen at hm2
        have HX := Lib.hid g3; clear g3
        have HE3 := Lib.hid (HE.out.tr (Ext.al wb (Obj.cells #[Value.string dn, Value.bool cd, Value.slice A2 xs.length c2] 48)))
        clear HE
        go_wp2
        generalize wb.alloc _ = w3 at *
        go_loopw [31] (fun i wr => ∃ r : Nat, r ≤ xs.length ∧ i = .int .i64 r ∧ Ext w wr) (fun i _ => xs.length - (intOf i).toNat)
        case atStart => exact ⟨0, Nat.zero_le _, rfl, HE3.out⟩
        case round =>
          obtain ⟨r, hr, rfl, hE⟩ := hrel
          have HEc := Lib.hid hE
          clear hE HE3
          by_cases hlt3 : r < xs.length
          · obtain ⟨b3, o3, va, rfl, hbl3, q0, q1, q2, q3⟩ := HX.out.at_ hlt3
            have q0 := HEc.out.keep q0
            have q1 := HEc.out.keep q1
            have hfd := HVF.out r _ (List.getElem?_eq_getElem hlt3)
            generalize xs[r] = x at *
            obtain ⟨A3, c3, rfl, hc3, hm3⟩ := q2.form
            unfold maxLen at hm3
            clear q2
            have HE4 := Lib.hid (HEc.out.tr (Ext.al wr (Obj.cells #[Value.string x.name, Value.slice A3 x.args.length c3] 45)))
            have hX4 := heapNew wr (Obj.cells #[Value.string x.name, Value.slice A3 x.args.length c3] 45)
            have x0 := cellAt hX4 0
            have HFD := Lib.hid hfd
            clear hX4 HEc hfd
            go_wp2_with fail
            generalize wr.alloc _ = w4 at *
            (with_reducible refine (Find_any _ l x.name _ (HR.out.below HE4.out)).mono ?_)
            rw [HFD.out]
            rintro e w5 ⟨rfl, hb⟩
            have HE5 := Lib.hid (HE4.out.tr hb)
            clear hb HE4 HFD
            have hw1 : IntKind.i64.wrap ((k : Int) + 1) = (k : Int) + 1 := IntWalk.i64_in _ (by omega)
            go_wp2
            go_roundw
            case rel => exact ⟨r + 1, by omega, by go_num, HE5.out⟩
            case measure => simp [intOf]; omega
          · go_wp2
            go_roundw
            case rel => exact ⟨k + 1, by omega, by go_num, HEc.out⟩
            case measure => simp [intOf]; omega
      · have hMo : Modest l := ⟨by omega, fun d hd => by have := HF.out.xtors d hd; omega, fun d hd x hx => by have := HF.out.args d hd x hx; omega⟩
        go_wp2_with fail
        (with_reducible refine (Copy_any _ l _ (HR.out.below HE.out) hMo).mono ?_)
        rintro e w4 ⟨⟨vo, vxs, rfl, hkd⟩, hb⟩
        have HE4 := Lib.hid (HE.out.tr hb)
        obtain ⟨Ao, co, rfl, hco, hmo, -⟩ := row_form hkd.row
        have hkb : KD w4 w.heap.size (.slice Ao l.length co) l vxs := ⟨hkd.len, by
          obtain ⟨h1, h2⟩ := hkd.row
          refine ⟨h1, ?_⟩
          rcases h2 with h2 | ⟨g, cap, cur, e1, e2, e3⟩
          · exact .inl h2
          · exact .inr ⟨g, cap, cur, e1, Nat.le_trans HE.out.size e2, e3⟩, hkd.xtors⟩
        have HK4 := Lib.hid hkb
        clear hkd hkb hMo
        obtain ⟨us, hul, hus, hux⟩ := HRM.out.src
        have HUX := Lib.hid hux
        have HU1 := Lib.hid (dcCells_one hul hux)
        have HSN := Lib.hid (hus.ext HE4.out)
        have hrow := Lib.hid HK4.out.row
        clear hux hus
        go_wp2_with (at_builtin; go_loud (refine wpl_row Try.uu22 Try.info48 rfl (by decide) rfl (.tmp 60) (.tmp 61) rfl w.heap.size (.slice Ao l.length co) l.length (dcCells l vxs) rfl hrow.out Am m.length cm (dcCells m us) rfl HSN.out HU1.out ?c1 ?c2 ?c3 ?_))
        case c1 => unfold maxLen; omega
        case c2 => omega
        case c3 => exact HE4.out.size
        intro v9 w9 hown9 hg9
        obtain ⟨A9, c9, rfl, hc9, hm9, -⟩ := row_form hown9
        unfold maxLen at hm9
        have HE9 : Hid (Ext w w9) := HE4.out.grown hg9 HE4.out.size (fun g e => (row_lt hrow.out g e).1)
        have HA9 : Hid (RDecls w9 (.slice A9 (l.length + m.length) c9) (l ++ m)) := HK4.out.more HR.out HRM.out hul HUX.out HE9.out hg9 hown9
        clear hown9 hg9 HK4 hrow HSN
        go_wp2_with fail
        (with_reducible refine (Is_any _ (l ++ m) _ HA9.out).mono ?_)
        rw [← valid_is]
        rintro e w10 ⟨rfl, hb⟩
        have HE10 := Lib.hid (HE9.out.tr hb)
        have HA10 := Lib.hid (HA9.out.below hb)
        clear hb HE9 HA9
        cases hq2 : validB (l ++ m)
        · clear hq2
          go_wp2_with fail
          (with_reducible refine (awake_any _).mono ?_)
          rintro e w11 ⟨rfl, hb⟩
          have HE11 := Lib.hid (HE10.out.tr hb)
          clear hb
          go_wp2
          go_ret
          exact ⟨rfl, HE11.out⟩
        · have HQ2 := Lib.hid hq2
          have HF2 := Lib.hid (Fine.of hq2)
          have h82 := HF2.out.few
          rw [List.length_append] at h82
          clear hq2
          go_wp2_with fail
          (with_reducible refine (Small_any _ l _ (HR.out.below HE10.out)).mono ?_)
          rintro e w11 ⟨-, hgood, hb⟩
          obtain ⟨g1, he, -, hb1⟩ := hgood HQ.out
          rw [he]
          have HE11 := Lib.hid (HE10.out.tr hb)
          have HA11 := Lib.hid (HA10.out.below hb)
          have HB11 := Lib.hid hb1
          clear hb hgood he hb1 HE10 HA10
          go_wp2_with fail
          (with_reducible refine (Small_any _ (l ++ m) _ HA11.out).mono ?_)
          rintro e w12 ⟨-, hgood, hb⟩
          obtain ⟨g2, he, -, hb2⟩ := hgood HQ2.out
          rw [List.length_append] at he
          rw [he]
          have HE12 := Lib.hid (HE11.out.tr hb)
          have HB12 : Hid (RBools w12 (.slice (some ⟨g1, 0, none⟩) l.length l.length) (smallR l)) := by
            have h1 := (HB11.out.ext hb).reads (by rw [small_len]; unfold maxLen; omega)
            rw [small_len] at h1
            exact h1
          have HC12 : Hid (RBools w12 (.slice (some ⟨g2, 0, none⟩) l.length (l.length + m.length)) (smallR l)) := by
            have h1 := hb2.reads (by rw [small_len, List.length_append]; unfold maxLen; omega)
            have h2 := h1.take (n := l.length) (by rw [small_len, List.length_append]; omega)
            rw [small_len, List.length_append] at h2
            have h3 := small_more (l := l) (m := m) (fun d hd x hx a ha => HF.out.tys d hd x hx a ha) (fun d hd x hx a ha => (HF2.out.tys d hd x hx a ha).1)
            rw [h3] at h2
            exact h2
          clear hb hgood he hb2 HE11 HA11 HB11
          have hle : (l.length : Int) ≤ (l.length : Int) + (m.length : Int) := by omega
          go_wp2_with fail
          (with_reducible refine (SameBools_any _ _ (smallR l) (smallR l) _ HB12.out HC12.out).mono ?_)
          have heq : eqB (smallR l) (smallR l) = true := by simp [eqB]
          rw [heq]
          rintro e w13 ⟨rfl, hb⟩
          have HE13 := Lib.hid (HE12.out.tr hb)
          clear hb heq
          go_wp2_with fail
          (with_reducible refine (awake_any _).mono ?_)
          rintro e w14 ⟨rfl, hb⟩
          have HE14 := Lib.hid (HE13.out.tr hb)
          clear hb
          go_wp2
          go_ret
          exact ⟨rfl, HE14.out⟩
end Go.Proofs.Ytoopngnmdgcklaa
