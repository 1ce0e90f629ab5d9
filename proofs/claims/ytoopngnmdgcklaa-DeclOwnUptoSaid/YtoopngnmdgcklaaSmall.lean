import Derived.Test.YtoopngnmdgcklaaWatch
import Derived.Test.YtoopngnmdgcklaaPure7
import Derived.Test.YtoopngnmdgcklaaEqv
namespace Go.Proofs.Ytoopngnmdgcklaa
open Go.RowKit

set_option maxHeartbeats 2000000 in
set_option maxRecDepth 100000 in
theorem watch_no (bs i : Nat) (va : Value) (as' : List Arg) (w : World) (hA : RArgs w va as') (hno : hasCo as' = true) :
    Calls Try.prog 46 #[.pointer (some ⟨bs, 0, none⟩), .int .i64 i, va] w (fun e w' => e = .returned (.tuple #[]) ∧ Ext w w') := by
  obtain ⟨A, c, rfl, hc, hm⟩ := hA.form
  unfold maxLen at hm
  have hE1 := (Ext.al w (.cells #[.pointer (some ⟨bs, 0, none⟩)] 91)).tr (Ext.al _ (.cells #[.int .i64 i] 3))
  have HE1 := Lib.hid hE1
  have HA1 := Lib.hid (hA.below hE1)
  clear hA hE1
  go_enter Try.func46, Try.ntmps46
  go_wp2_with fail
  generalize World.alloc _ _ = w1 at *
  (with_reducible refine (hasConsumer_any _ _ _ HA1.out).mono ?_)
  rw [hno]
  rintro e w2 ⟨rfl, hb2⟩
  have HE2 := Lib.hid (HE1.out.tr hb2)
  clear hb2
  go_wp2
  refine bodyPost_ret (results_none rfl _ _ _) rfl ?_
  exact ⟨rfl, HE2.out⟩

/-- What the search knows while it reads the declarations: R is still to be read. -/
structure SJ (w : World) (l : List Decl) (bs gF gW : Nat) (R : List (Nat × List Nat)) (m : Nat) (wr : World) : Prop where
  ex : ∃ W Q cs mis wv qv, SI wr w.heap.size bs gF gW (List.replicate l.length false) W Q cs mis wv qv ∧ LJ l.length (List.replicate l.length false) W Q cs mis ∧ Fired (List.replicate l.length false) cs mis
    ∧ cs.map (fun c => (c.i, c.ts)) ++ R = conD 0 l ∧ pot l.length (List.replicate l.length false) W Q ≤ 7 * cs.length ∧ (∀ m, mis m ≤ 7) ∧ cs.length ≤ m ∧ Ext w wr

theorem SJ.ext {w wr w' : World} {l : List Decl} {bs gF gW : Nat} {R : List (Nat × List Nat)} {m : Nat} (h : SJ w l bs gF gW R m wr) (hb : Ext wr w') : SJ w l bs gF gW R m w' := by
  obtain ⟨W, Q, cs, mis, wv, qv, h1, h2, h3, h4, h5, h6, h7, h8⟩ := h
  exact ⟨W, Q, cs, mis, wv, qv, h1.ext hb, h2, h3, h4, h5, h6, h7, h8.tr hb⟩
theorem AllF_rep (n : Nat) : AllF (List.replicate n false) := fun j => by
  rw [List.getD_eq_getElem?_getD, List.getElem?_replicate]
  split <;> rfl
theorem SJ.more {w wr : World} {l : List Decl} {bs gF gW : Nat} {R : List (Nat × List Nat)} {m m' : Nat} (h : SJ w l bs gF gW R m wr) (hm : m ≤ m') : SJ w l bs gF gW R m' wr := by
  obtain ⟨W, Q, cs, mis, wv, qv, h1, h2, h3, h4, h5, h6, h7, h8⟩ := h
  exact ⟨W, Q, cs, mis, wv, qv, h1, h2, h3, h4, h5, h6, by omega, h8⟩
theorem tsOf_lt {n : Nat} {as' : List Arg} (h : ∀ a ∈ as', 0 ≤ a.ty ∧ a.ty ≤ n) : ∀ t ∈ tsOf as', t < n := by
  intro t ht
  unfold tsOf at ht
  obtain ⟨a, ha, rfl⟩ := List.mem_map.1 ht
  obtain ⟨ha, h0⟩ := List.mem_filter.1 ha
  have := h a ha
  simp at h0
  omega

theorem watch_any (w : World) (l : List Decl) (bs gF gW i m : Nat) (R : List (Nat × List Nat)) (va : Value) (as' : List Arg) (wr : World) (h : SJ w l bs gF gW ((if hasCo as' then [] else [(i, tsOf as')]) ++ R) m wr)
    (hA : RArgs w va as') (hi : i < l.length) (hn8 : l.length ≤ 8) (hty : ∀ a ∈ as', 0 ≤ a.ty ∧ a.ty ≤ l.length) (hal : as'.length ≤ 6) (hm : m ≤ 48) :
    Calls Try.prog 46 #[.pointer (some ⟨bs, 0, none⟩), .int .i64 i, va] wr (fun e w' => e = .returned (.tuple #[]) ∧ SJ w l bs gF gW R (m + 1) w') := by
  obtain ⟨W, Q, cs, mis, wv, qv, h1, h2, h3, h4, h5, h6, h7, h8⟩ := h
  have hA' := hA.below h8
  cases hno : hasCo as'
  · rw [hno, if_neg (by decide)] at h4
    have hF := AllF_rep l.length
    have hQ := pot_q (n := l.length) (F := List.replicate l.length false) (W := W) (Q := Q)
    have hW := pot_w (n := l.length) (W := W) (Q := Q) hF h2.Wl
    refine (watch_yes w.heap.size bs gF gW l.length i _ W Q cs mis wv qv va as' wr h1 hA' h8.size (by simp) hn8 hty hal hno (by omega) (fun L hL => by have := hW L hL; omega) (fun w' hb => hA.below (h8.trans hb))).mono ?_
    rintro e w' ⟨rfl, ⟨c, wv', qv', hci, hct, hsi, hne⟩, hb⟩
    have hts := tsOf_len as'
    have hlt := tsOf_lt hty
    refine ⟨rfl, addW c W c.ts, Q ++ [c], cs ++ [c], misS mis c.m (1 + c.ts.length), wv', qv', hsi, h2.reg hF hne (by rw [hci]; exact hi) (by rw [hct]; exact hlt), h3.reg hne, ?_, ?_, fun k => ?_, ?_, h8.trans hb⟩
    · rw [List.map_append, List.append_assoc, ← h4]
      simp only [List.map_cons, List.map_nil, hci, hct]
    · rw [pot_reg hF h2.Wl (by rw [hct]; exact hlt), List.length_append, hct]
      simp only [List.length_cons, List.length_nil]
      omega
    · unfold misS
      have := h6 k
      rw [hct]
      split <;> omega
    · rw [List.length_append]; simp only [List.length_cons, List.length_nil]; omega
  · rw [hno, if_pos rfl] at h4
    refine (watch_no bs i va as' wr hA' hno).mono ?_
    rintro e w' ⟨rfl, hb⟩
    exact ⟨rfl, (SJ.mk ⟨W, Q, cs, mis, wv, qv, h1, h2, h3, h4, h5, h6, h7, h8⟩).ext hb |>.more (by omega)⟩

theorem Try.info85 : (Try.prog.info? 85).map (fun i => (i.zero, i.size, i.bytes)) = some (some (.slice none 0 0), 1, 24) := by kernel_rfl
theorem Try.underlying84 : Try.prog.underlying 84 = some (.slice 85) := by kernel_rfl
theorem made_rows (n : Nat) : madeCells #[Value.slice none 0 0] n = (List.replicate n (Value.slice none 0 0)).toArray := by
  apply Array.ext
  · simp [size_madeCells]
  · intro i h1 h2
    have hz : (#[Value.slice none 0 0] : Array Value)[0]! = Value.slice none 0 0 := rfl
    simp [madeCells, Nat.mod_one]
theorem make_rows (w : World) (n : Nat) (h : n ≤ 1000) : (Instr.makeSlice 84 (.int .i64 n) (.int .i64 n)).run Try.prog w = .ok (.slice (some ⟨w.heap.size, 0, none⟩) n n) (w.alloc (.cells (List.replicate n (Value.slice none 0 0)).toArray 85)) := by
  obtain ⟨i0, hi, hz0, hz1, hz2⟩ := info_parts Try.info85
  have := run_make w 84 85 i0 (.slice none 0 0) Try.underlying84 hi hz0 .i64 .i64 n n (by omega) (by omega) (by rw [hz2]; omega) (by omega)
  rw [this, hz1]
  simp only [Int.toNat_natCast, Nat.mul_one]
  rw [show (Value.slice none 0 0).cells = #[Value.slice none 0 0] from rfl, made_rows]

theorem al3 (w : World) (x y z : Obj) (hx : Ext w (w.alloc x)) : Ext w (((w.alloc x).alloc y).alloc z).drew := ((hx.tr (Ext.al _ y)).tr (Ext.al _ z)).drew
theorem heap3 (w : World) (a b c : Array Value) (ea eb ec : Nat) : (((w.alloc (.cells a ea)).alloc (.cells b eb)).alloc (.cells c ec)).drew.heap[w.heap.size]? = some (.cells a ea (0, 0)) ∧ (((w.alloc (.cells a ea)).alloc (.cells b eb)).alloc (.cells c ec)).drew.heap[w.heap.size + 1]? = some (.cells b eb (0, 0)) ∧ (((w.alloc (.cells a ea)).alloc (.cells b eb)).alloc (.cells c ec)).drew.heap[w.heap.size + 1 + 1]? = some (.cells c ec (0, 0)) := by
  refine ⟨?_, ?_, ?_⟩
  · exact ((Ext.al _ _).block _ (by simp; omega)).trans (((Ext.al _ _).block _ (by simp)).trans (heapNew w _))
  · have := heapNew (w.alloc (.cells a ea)) (.cells b eb)
    exact ((Ext.al _ _).block _ (by simp)).trans (by simpa using this)
  · have := heapNew ((w.alloc (.cells a ea)).alloc (.cells b eb)) (.cells c ec)
    show (((w.alloc (.cells a ea)).alloc (.cells b eb)).alloc (.cells c ec)).heap[w.heap.size + 1 + 1]? = _
    simpa using this
theorem own_nil {w : World} {B : Nat} : w.ownsRow B 1 1 (.slice none 0 0) 0 [] := ⟨rfl, .inl ⟨rfl, rfl⟩⟩
theorem SJ.init (w w' : World) (l : List Decl) (bs gF gW : Nat) (hs : w'.heap[bs]? = some (.cells #[.slice (some ⟨gF, 0, none⟩) l.length l.length, .slice (some ⟨gW, 0, none⟩) l.length l.length, .slice none 0 0] 87 (0, 0)))
    (hF : w'.heap[gF]? = some (.cells (Array.replicate l.length (Value.bool false)) 4 (0, 0))) (hW : w'.heap[gW]? = some (.cells (Array.replicate l.length (Value.slice none 0 0)) 85 (0, 0))) (hb : Ext w w') (h1 : w.heap.size ≤ bs) (h2 : w.heap.size ≤ gF) (h3 : w.heap.size ≤ gW) :
    SJ w l bs gF gW (conD 0 l) 0 w' := by
  have hz : ∀ j, (List.replicate l.length ([] : List Con)).getD j [] = [] := fun j => by
    rw [List.getD_eq_getElem?_getD, List.getElem?_replicate]; split <;> rfl
  refine ⟨List.replicate l.length [], [], [], fun _ => 0, List.replicate l.length (.slice none 0 0), .slice none 0 0, ⟨by rw [List.length_replicate]; exact hs, ?_, ?_, by simp, by simp, fun j v L e1 e2 => ?_, own_nil, fun i j vi vj g e1 _ e3 => ?_, fun i v g e1 e3 => ?_, fun c hc => (by cases hc), ⟨h1, h2, h3⟩, fun c hc => (by cases hc), fun c hc => (by cases hc)⟩,
    ⟨by simp, by simp, fun c hc => (by cases hc), fun c hc => (by cases hc), fun c hc => (by cases hc), fun j c hc => ?_, fun c hc => (by cases hc), fun T _ j hj => ?_, fun c hc => (by cases hc)⟩, fun c hc => (by cases hc), rfl, ?_, fun _ => Nat.zero_le _, Nat.le_refl _, hb⟩
  · show w'.heap[gF]? = _
    rw [hF]; simp
  · rw [hW]; simp
  · rw [(List.mem_replicate.1 (List.mem_of_getElem? e1)).2, (List.mem_replicate.1 (List.mem_of_getElem? e2)).2]
    exact own_nil
  · rw [List.getElem?_replicate] at e1
    split at e1
    · cases e1; cases e3
    · cases e1
  · rw [List.getElem?_replicate] at e1
    split at e1
    · cases e1; cases e3
    · cases e1
  · rw [hz] at hc; cases hc
  · rw [AllF_rep] at hj; cases hj
  · unfold pot
    rw [sumN_zero (fun j _ => by rw [hz]; simp)]
    simp

set_option maxHeartbeats 4000000 in
set_option maxRecDepth 100000 in
theorem small_any (v : Value) (l : List Decl) (w : World) (h : RDecls w v l) (hF : Fine l) :
    Calls Try.prog 30 #[v] w fun e w' => (∃ g, e = .returned (.slice (some ⟨g, 0, none⟩) l.length l.length) ∧ w.heap.size ≤ g ∧ BBlk w' g (smallR l)) ∧ Ext w w' := by
  have HR := Lib.hid h
  have h8 := hF.few
  have HF := Lib.hid hF
  clear hF
  obtain ⟨A, c, rfl, hc, hm⟩ := h.form
  clear h
  unfold maxLen at hm
  have hmb : ∀ w : World, (Instr.makeSlice 29 (.int .i64 l.length) (.int .i64 l.length)).run Try.prog w = _ := fun w => make_bools w l.length (by omega)
  have hmr : ∀ w : World, (Instr.makeSlice 84 (.int .i64 l.length) (.int .i64 l.length)).run Try.prog w = _ := fun w => make_rows w l.length (by omega)
  go_enter Try.func30, Try.ntmps30
  go_wp2
  have hN : (l.length : Int) ≤ 8 := by omega
  go_region
  have HSJ := Lib.hid (SJ.init w (((w.alloc (.cells (Array.replicate l.length (Value.bool false)) 4)).alloc (.cells (Array.replicate l.length (Value.slice none 0 0)) 85)).alloc (.cells #[.slice (some ⟨w.heap.size, 0, none⟩) l.length l.length, .slice (some ⟨(w.heap.size + 1), 0, none⟩) l.length l.length, .slice none 0 0] 87)).drew l (w.heap.size + 1 + 1) w.heap.size (w.heap.size + 1) (heap3 w _ _ _ _ _ _).2.2 (heap3 w _ _ _ _ _ _).1 (heap3 w _ _ _ _ _ _).2.1 (al3 w _ _ _ (Ext.al w _)) (by omega) (by omega) (by omega))
  generalize World.drew _ = w1 at *
  obtain ⟨bs, hbs⟩ : ∃ bs, bs = (w.heap.size + 1 + 1) := ⟨_, rfl⟩
  rw [← hbs] at HSJ
  rw [← hbs]
  clear hbs
  rotate_left
  have HSJ := Lib.hid (SJ.init w (((w.alloc (.cells (Array.replicate l.length (Value.bool false)) 4)).alloc (.cells #[.slice (some ⟨w.heap.size, 0, none⟩) l.length l.length, .slice (some ⟨(w.heap.size + 1 + 1), 0, none⟩) l.length l.length, .slice none 0 0] 87)).alloc (.cells (Array.replicate l.length (Value.slice none 0 0)) 85)).drew l (w.heap.size + 1) w.heap.size (w.heap.size + 1 + 1) (heap3 w _ _ _ _ _ _).2.1 (heap3 w _ _ _ _ _ _).1 (heap3 w _ _ _ _ _ _).2.2 (al3 w _ _ _ (Ext.al w _)) (by omega) (by omega) (by omega))
  generalize World.drew _ = w1 at *
  obtain ⟨bs, hbs⟩ : ∃ bs, bs = (w.heap.size + 1) := ⟨_, rfl⟩
  rw [← hbs] at HSJ
  rw [← hbs]
  clear hbs
  rotate_left
  have HSJ := Lib.hid (SJ.init w (((w.alloc (.cells (Array.replicate l.length (Value.slice none 0 0)) 85)).alloc (.cells (Array.replicate l.length (Value.bool false)) 4)).alloc (.cells #[.slice (some ⟨(w.heap.size + 1), 0, none⟩) l.length l.length, .slice (some ⟨w.heap.size, 0, none⟩) l.length l.length, .slice none 0 0] 87)).drew l (w.heap.size + 1 + 1) (w.heap.size + 1) w.heap.size (heap3 w _ _ _ _ _ _).2.2 (heap3 w _ _ _ _ _ _).2.1 (heap3 w _ _ _ _ _ _).1 (al3 w _ _ _ (Ext.al w _)) (by omega) (by omega) (by omega))
  generalize World.drew _ = w1 at *
  obtain ⟨bs, hbs⟩ : ∃ bs, bs = (w.heap.size + 1 + 1) := ⟨_, rfl⟩
  rw [← hbs] at HSJ
  rw [← hbs]
  clear hbs
  rotate_left
  have HSJ := Lib.hid (SJ.init w (((w.alloc (.cells (Array.replicate l.length (Value.slice none 0 0)) 85)).alloc (.cells #[.slice (some ⟨(w.heap.size + 1 + 1), 0, none⟩) l.length l.length, .slice (some ⟨w.heap.size, 0, none⟩) l.length l.length, .slice none 0 0] 87)).alloc (.cells (Array.replicate l.length (Value.bool false)) 4)).drew l (w.heap.size + 1) (w.heap.size + 1 + 1) w.heap.size (heap3 w _ _ _ _ _ _).2.1 (heap3 w _ _ _ _ _ _).2.2 (heap3 w _ _ _ _ _ _).1 (al3 w _ _ _ (Ext.al w _)) (by omega) (by omega) (by omega))
  generalize World.drew _ = w1 at *
  obtain ⟨bs, hbs⟩ : ∃ bs, bs = (w.heap.size + 1) := ⟨_, rfl⟩
  rw [← hbs] at HSJ
  rw [← hbs]
  clear hbs
  rotate_left
  have HSJ := Lib.hid (SJ.init w (((w.alloc (.cells #[.slice (some ⟨(w.heap.size + 1), 0, none⟩) l.length l.length, .slice (some ⟨(w.heap.size + 1 + 1), 0, none⟩) l.length l.length, .slice none 0 0] 87)).alloc (.cells (Array.replicate l.length (Value.bool false)) 4)).alloc (.cells (Array.replicate l.length (Value.slice none 0 0)) 85)).drew l w.heap.size (w.heap.size + 1) (w.heap.size + 1 + 1) (heap3 w _ _ _ _ _ _).1 (heap3 w _ _ _ _ _ _).2.1 (heap3 w _ _ _ _ _ _).2.2 (al3 w _ _ _ (Ext.al w _)) (by omega) (by omega) (by omega))
  generalize World.drew _ = w1 at *
  obtain ⟨bs, hbs⟩ : ∃ bs, bs = w.heap.size := ⟨_, rfl⟩
  rw [← hbs] at HSJ
  rw [← hbs]
  clear hbs
  rotate_left
  have HSJ := Lib.hid (SJ.init w (((w.alloc (.cells #[.slice (some ⟨(w.heap.size + 1 + 1), 0, none⟩) l.length l.length, .slice (some ⟨(w.heap.size + 1), 0, none⟩) l.length l.length, .slice none 0 0] 87)).alloc (.cells (Array.replicate l.length (Value.slice none 0 0)) 85)).alloc (.cells (Array.replicate l.length (Value.bool false)) 4)).drew l w.heap.size (w.heap.size + 1 + 1) (w.heap.size + 1) (heap3 w _ _ _ _ _ _).1 (heap3 w _ _ _ _ _ _).2.2 (heap3 w _ _ _ _ _ _).2.1 (al3 w _ _ _ (Ext.al w _)) (by omega) (by omega) (by omega))
  generalize World.drew _ = w1 at *
  obtain ⟨bs, hbs⟩ : ∃ bs, bs = w.heap.size := ⟨_, rfl⟩
  rw [← hbs] at HSJ
  rw [← hbs]
  clear hbs
  rotate_left
  all_goals
    clear hmb hmr
    go_wp2
    go_loopw [17] (fun i wr => ∃ (k gF gW : Nat), k ≤ l.length ∧ i = .int .i64 k ∧ SJ w l bs gF gW (conD k (l.drop k)) (6 * k) wr) (fun i _ => l.length - (intOf i).toNat)
    case atStart => exact ⟨0, _, _, Nat.zero_le _, rfl, HSJ.out⟩
    case round =>
      obtain ⟨k, gF, gW, hk, rfl, hsj⟩ := hrel
      obtain ⟨wb, rfl⟩ : ∃ wb : World, wb = wr := ⟨_, rfl⟩
      have HS := Lib.hid hsj; clear hsj HSJ
      have HE : Hid (Ext w wb) := by obtain ⟨W, Q, cs, mis, wv, qv, h1, h2, h3, h4, h5, h6, h7, h8⟩ := HS.out; exact h8
      by_cases hlt : k < l.length
      · obtain ⟨b2, o2, vx, rfl, hbl2, g0, g1, g2, g3, g4⟩ := HR.out.at_ hlt
        have g0 := HE.out.keep g0
        have g1 := HE.out.keep g1
        have g2 := HE.out.keep g2
        have HD := Lib.hid (drop_step hlt)
        have HXT := Lib.hid (HF.out.tys _ (List.getElem_mem hlt))
        have HXA := Lib.hid (HF.out.args _ (List.getElem_mem hlt))
        have hxl := HF.out.xtors _ (List.getElem_mem hlt)
        generalize l[k] = d at *
        obtain ⟨dn, co, xs⟩ := d
        dsimp only at *
        obtain ⟨A2, c2, rfl, hc2, hm2⟩ := g3.form
        unfold maxLen at hm2
        have HX := Lib.hid g3; clear g3
        have hE2 := Ext.al wb (Obj.cells #[Value.string dn, Value.bool co, Value.slice A2 xs.length c2] 48)
        have HS2 := Lib.hid (HS.out.ext hE2)
        clear hE2
        cases co
        · go_wp2
          generalize wb.alloc _ = w2 at *
          go_loopw [27] (fun i wr => ∃ (r gF gW : Nat), r ≤ xs.length ∧ i = .int .i64 r ∧ SJ w l bs gF gW (conX k (xs.drop r) ++ conD (k + 1) (l.drop (k + 1))) (6 * k + r) wr) (fun i _ => xs.length - (intOf i).toNat)
          case atStart =>
            refine ⟨0, gF, gW, Nat.zero_le _, rfl, ?_⟩
            have := HS2.out
            rw [HD.out] at this
            exact this
          case round =>
            obtain ⟨r, gF, gW, hr, rfl, hsj⟩ := hrel
            have HSc := Lib.hid hsj; clear hsj HS HS2
            have HEc : Hid (Ext w wr) := by obtain ⟨W, Q, cs, mis, wv, qv, h1, h2, h3, h4, h5, h6, h7, h8⟩ := HSc.out; exact h8
            by_cases hlt3 : r < xs.length
            · obtain ⟨b3, o3, va, rfl, hbl3, q0, q1, q2, q3⟩ := HX.out.at_ hlt3
              have q0 := HEc.out.keep q0
              have q1 := HEc.out.keep q1
              have HD3 := Lib.hid (drop_step hlt3)
              have HXTr := Lib.hid (HXT.out _ (List.getElem_mem hlt3))
              have HXAr := Lib.hid (HXA.out _ (List.getElem_mem hlt3))
              generalize xs[r] = x at *
              obtain ⟨A3, c3, rfl, hc3, hm3⟩ := q2.form
              have HXQ := Lib.hid q2; clear q2
              have hE4 := Ext.al wr (Obj.cells #[Value.string x.name, Value.slice A3 x.args.length c3] 45)
              have hsj4 := HSc.out.ext hE4
              rw [HD3.out] at hsj4
              have hsj4 : SJ w l bs gF gW ((if hasCo x.args then [] else [(k, tsOf x.args)]) ++ (conX k (xs.drop (r + 1)) ++ conD (k + 1) (l.drop (k + 1)))) (6 * k + r) (wr.alloc (Obj.cells #[Value.string x.name, Value.slice A3 x.args.length c3] 45)) := by
                rw [← List.append_assoc]; exact hsj4
              have HS4 := Lib.hid hsj4
              clear hE4 hsj4
              have hm48 : 6 * k + r ≤ 48 := by omega
              go_wp2_with fail
              generalize wr.alloc _ = w4 at *
              (with_reducible refine (watch_any w l bs gF gW k (6 * k + r) _ _ x.args w4 HS4.out HXQ.out hlt h8 HXTr.out HXAr.out hm48).mono ?_)
              rintro e w5 ⟨rfl, hsj5⟩
              have HS5 := Lib.hid hsj5
              clear hsj5
              go_wp2
              go_roundw
              case rel => exact ⟨r + 1, gF, gW, by omega, by go_num, HS5.out⟩
              case measure => simp [intOf]; omega
            · go_wp2
              go_roundw
              case rel =>
                refine ⟨k + 1, gF, gW, by omega, by go_num, ?_⟩
                have := HSc.out
                rw [drop_end hlt3] at this
                exact this.more (by omega)
              case measure => simp [intOf]; omega
        · go_wp2
          go_roundw
          case rel =>
            refine ⟨k + 1, gF, gW, by omega, by go_num, ?_⟩
            have := HS2.out
            rw [HD.out] at this
            exact this.more (by omega)
          case measure => simp [intOf]; omega
      · obtain ⟨W, Q, cs, mis, wv, qv, h1, h2, h3, h4, h5, h6, h7, h8'⟩ := HS.out
        have H1 := Lib.hid h1; have H2 := Lib.hid h2; have H3 := Lib.hid h3; have H6 := Lib.hid h6; have H4 := Lib.hid h4
        have hcs : cs.length ≤ 48 := by omega
        have hpt : pot l.length (List.replicate l.length false) W Q ≤ 1000 := by omega
        have HWs : Hid (∀ L ∈ W, L.length ≤ 1000) := fun L hL => by
          have := pot_w (n := l.length) (W := W) (Q := Q) (AllF_rep l.length) h2.Wl L hL
          omega
        have HMs : Hid (∀ m, mis m ≤ 1000) := fun m => by have := h6 m; omega
        clear h1 h2 h3 h4 h5 h6 h7 h8' HS
        go_wp2_with fail
        (with_reducible refine (run_any w.heap.size bs gF gW l.length _ W Q cs mis wv qv _ H1.out H2.out H3.out h8 hpt HWs.out HMs.out).mono ?_)
        rintro e w5 ⟨rfl, ⟨F, mis', qv', hsi, hlj, hfi⟩, hb⟩
        have HLJ := Lib.hid hlj; have HFI := Lib.hid hfi; have HB := Lib.hid (HE.out.trans hb)
        have hfl := hlj.Fl
        have hhs := cellAt hsi.hs 0
        rw [hfl] at hhs
        have HSI := Lib.hid hsi
        clear hlj hfi hb hsi
        go_wp2
        go_ret
        have e1 : F = smallR l := by
          refine found_small HLJ.out HFI.out ?_ (fun d hd x hx a ha => (HF.out.tys d hd x hx a ha).1)
          have := H4.out
          rw [drop_end hlt] at this
          simpa [conD] using this
        exact ⟨⟨gF, rfl, HSI.out.lows.2.1, by rw [← e1]; exact HSI.out.hF⟩, HB.out⟩

/-- What 'Small' answers. -/
structure SPost (l : List Decl) (w : World) (e : Ending) (w' : World) : Prop where
  bad : validB l = false → e = .returned (.tuple #[.slice none 0 0, .int .i64 10])
  good : validB l = true → ∃ g, e = .returned (.tuple #[.slice (some ⟨g, 0, none⟩) l.length l.length, .int .i64 0]) ∧ w.heap.size ≤ g ∧ BBlk w' g (smallR l)
  ext : Ext w w'

theorem Small_any (v : Value) (l : List Decl) (w : World) (h : RDecls w v l) : Calls Try.prog 11 #[v] w (SPost l w) := by
  have HR := Lib.hid h
  obtain ⟨A, c, rfl, hc, hm⟩ := h.form
  clear h
  go_enter Try.func11, Try.ntmps11
  go_wp2_with fail
  (with_reducible refine (valid_any _ _ _ HR.out).mono ?_)
  rintro e w2 ⟨rfl, hb2⟩
  have HB := Lib.hid hb2
  have HR2 := Lib.hid (HR.out.below hb2)
  clear hb2
  cases hq : validB l
  · have HQ := Lib.hid hq; clear hq
    go_wp2
    go_ret2
    exact ⟨fun _ => rfl, fun h => (by rw [HQ.out] at h; cases h), HB.out⟩
  · have HF := Lib.hid (Fine.of hq)
    have HQ := Lib.hid hq; clear hq
    go_wp2_with fail
    (with_reducible refine (small_any _ _ _ HR2.out HF.out).mono ?_)
    rintro e w3 ⟨⟨g, rfl, hg, hbb⟩, hb3⟩
    have HB3 := Lib.hid (HB.out.tr hb3)
    have HBB := Lib.hid hbb
    have hz := HB.out.size
    clear hb3 hbb
    go_wp2
    go_ret2
    exact ⟨fun h => (by rw [HQ.out] at h; cases h), fun _ => ⟨g, rfl, by omega, HBB.out⟩, HB3.out⟩
end Go.Proofs.Ytoopngnmdgcklaa
