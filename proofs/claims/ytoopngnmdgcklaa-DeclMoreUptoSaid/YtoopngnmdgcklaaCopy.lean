import Derived.Test.YtoopngnmdgcklaaKMem
namespace Go.Proofs.Ytoopngnmdgcklaa
open Go.RowKit

/-- Not larger than what may come in. -/
structure Modest (l : List Decl) : Prop where
  few : l.length ≤ 1048576
  xts : ∀ d ∈ l, d.xtors.length ≤ 1048576
  ars : ∀ d ∈ l, ∀ x ∈ d.xtors, x.args.length ≤ 1048576

theorem own_nil' {w : World} {B e size : Nat} : w.ownsRow B e size (.slice none 0 0) 0 [] := ⟨by simp, .inl ⟨rfl, rfl⟩⟩

theorem KX.snoc {w8 w9 : World} {B : Nat} {v v' va : Value} {l : List Xtor} {vas : List Value} {x : Xtor} (h : KX w8 B v l vas) (hg : w8.grownBy w9 v.ownBlock) (hr : w9.ownsRow B 45 2 v' (l.length + 1) (xtCells l vas ++ [.string x.name, va])) (ha : KArgs w8 va x.args) : KX w9 B v' (l ++ [x]) (vas ++ [va]) := by
  refine ⟨by simp [h.len], ?_, fun i u y hi hy => ?_⟩
  · rw [xtCells_snoc _ _ _ _ h.len, List.length_append]
    exact hr
  · by_cases hlt : i < l.length
    · rw [List.getElem?_append_left (by rw [h.len]; exact hlt)] at hi
      rw [List.getElem?_append_left hlt] at hy
      exact row_other (h.args i u y hi hy) h.row (by decide) hg
    · have hil : i = l.length := by
        have := (List.getElem?_eq_some_iff.1 hy).1
        simp at this
        omega
      subst hil
      rw [← h.len] at hi
      simp at hi hy
      subst hi; subst hy
      exact row_other ha h.row (by decide) hg
theorem KD.snoc {w8 w9 : World} {B : Nat} {v v' vx : Value} {l : List Decl} {vxs : List Value} {d : Decl} (h : KD w8 B v l vxs) (hg : w8.grownBy w9 v.ownBlock) (hr : w9.ownsRow B 48 3 v' (l.length + 1) (dcCells l vxs ++ [.string d.name, .bool d.codata, vx])) (ha : KXtors w8 vx d.xtors) : KD w9 B v' (l ++ [d]) (vxs ++ [vx]) := by
  refine ⟨by simp [h.len], ?_, fun i u y hi hy => ?_⟩
  · rw [dcCells_snoc _ _ _ _ h.len, List.length_append]
    exact hr
  · by_cases hlt : i < l.length
    · rw [List.getElem?_append_left (by rw [h.len]; exact hlt)] at hi
      rw [List.getElem?_append_left hlt] at hy
      exact (h.xtors i u y hi hy).other h.row hg
    · have hil : i = l.length := by
        have := (List.getElem?_eq_some_iff.1 hy).1
        simp at this
        omega
      subst hil
      rw [← h.len] at hi
      simp at hi hy
      subst hi; subst hy
      exact ha.other h.row hg
theorem row_lt {w : World} {B e size n : Nat} {v : Value} {xs : List Value} (h : w.ownsRow B e size v n xs) : ∀ g, v.ownBlock = some g → B ≤ g ∧ g < w.heap.size := fun g hg => by
  rcases h.2 with ⟨rfl, _⟩ | ⟨g', cap, cur, rfl, hb, hh, _⟩
  · simp [Value.ownBlock] at hg
  · have : g' = g := by simpa [Value.ownBlock] using hg
    subst this
    exact ⟨hb, heap_lt hh⟩
theorem grown_ext {w w' : World} (hg : w.grownBy w' none) : Ext w w' := (Below.refl _ _).grown hg (Nat.le_refl _) (fun k e => by cases e)

set_option maxHeartbeats 4000000 in
set_option maxRecDepth 100000 in
theorem Copy_any (v : Value) (l : List Decl) (w : World) (h : RDecls w v l) (hM : Modest l) :
    Calls Try.prog 25 #[v] w fun e w' => (∃ vo vxs, e = .returned vo ∧ KD w' w.heap.size vo l vxs) ∧ Ext w w' := by
  have HR := Lib.hid h
  have h8 := hM.few
  have HF := Lib.hid hM
  clear hM
  obtain ⟨A, c, rfl, hc, hm⟩ := h.form
  clear h
  unfold maxLen at hm
  go_enter Try.func25, Try.ntmps25
  go_wp2
  go_loopw [3, 11] (fun vo i wr => ∃ (k : Nat) (vxs : List Value), k ≤ l.length ∧ i = .int .i64 k ∧ KD wr w.heap.size vo (l.take k) vxs ∧ Ext w wr) (fun _ i _ => l.length - (intOf i).toNat)
  case atStart => exact ⟨0, [], Nat.zero_le _, rfl, ⟨rfl, own_nil', fun i vx d h => by simp at h⟩, Ext.rf w⟩
  case round =>
    obtain ⟨k, vxs, hk, rfl, hkd, hE⟩ := hrel
    obtain ⟨wb, rfl⟩ : ∃ wb : World, wb = wr := ⟨_, rfl⟩
    have HE := Lib.hid hE
    obtain ⟨Ao, co, rfl, -⟩ := row_form hkd.row
    have HK := Lib.hid hkd
    clear hkd hE
    by_cases hlt : k < l.length
    · obtain ⟨b2, o2, vx, rfl, hbl2, g0, g1, g2, g3, g4⟩ := HR.out.at_ hlt
      have g0 := HE.out.keep g0
      have g1 := HE.out.keep g1
      have g2 := HE.out.keep g2
      have HXA := Lib.hid (HF.out.ars _ (List.getElem_mem hlt))
      have hxl := HF.out.xts _ (List.getElem_mem hlt)
      have HTK : Hid (l.take (k + 1) = l.take k ++ [l[k]]) := List.take_succ_eq_append_getElem hlt
      have hlk : (l.take k).length = k := by rw [List.length_take]; omega
      rw [hlk]
      generalize l[k] = d at *
      obtain ⟨dn, cd, xs⟩ := d
      dsimp only at *
      obtain ⟨A2, c2, rfl, hc2, hm2⟩ := g3.form
      unfold maxLen at hm2
      have HX := Lib.hid g3; clear g3
      have hE2 := Ext.al wb (Obj.cells #[Value.string dn, Value.bool cd, Value.slice A2 xs.length c2] 48)
      have hD2 := heapNew wb (Obj.cells #[Value.string dn, Value.bool cd, Value.slice A2 xs.length c2] 48)
      have HK2 := Lib.hid (HK.out.ext hE2)
      have HE2 := Lib.hid (HE.out.tr hE2)
      have HD2 := Lib.hid hD2
      clear hE2 HK hD2
      go_wp2
      generalize wb.alloc _ = w2 at *
      go_loopw [6, 18] (fun vx i wr => ∃ (r : Nat) (vas : List Value), r ≤ xs.length ∧ i = .int .i64 r ∧ KX wr w2.heap.size vx (xs.take r) vas ∧ Ext w2 wr) (fun _ i _ => xs.length - (intOf i).toNat)
      case atStart => exact ⟨0, [], Nat.zero_le _, rfl, ⟨rfl, own_nil', fun i vx d h => by simp at h⟩, Ext.rf w2⟩
      case round =>
        obtain ⟨r, vas, hr, rfl, hkx, hE⟩ := hrel
        have HEc := Lib.hid hE
        obtain ⟨Ax, cx, rfl, -⟩ := row_form hkx.row
        have HKX := Lib.hid hkx
        clear hkx hE
        by_cases hlt3 : r < xs.length
        · have HEw := Lib.hid (HE2.out.tr HEc.out)
          obtain ⟨b3, o3, va, rfl, hbl3, q0, q1, q2, q3⟩ := HX.out.at_ hlt3
          have q0 := HEw.out.keep q0
          have q1 := HEw.out.keep q1
          have hxa := HXA.out _ (List.getElem_mem hlt3)
          have HTX : Hid (xs.take (r + 1) = xs.take r ++ [xs[r]]) := List.take_succ_eq_append_getElem hlt3
          have hlr : (xs.take r).length = r := by rw [List.length_take]; omega
          rw [hlr]
          generalize xs[r] = x at *
          obtain ⟨A3, c3, rfl, hc3, hm3⟩ := q2.form
          unfold maxLen at hm3
          have HXQ := Lib.hid q2; clear q2
          have hE4 := Ext.al wr (Obj.cells #[Value.string x.name, Value.slice A3 x.args.length c3] 45)
          have hX4 := heapNew wr (Obj.cells #[Value.string x.name, Value.slice A3 x.args.length c3] 45)
          have HE4 := Lib.hid (HEc.out.tr hE4)
          have HKX4 := Lib.hid (HKX.out.ext hE4)
          have HA4 := Lib.hid (HXQ.out.below (HEw.out.tr hE4))
          have hg4 : wr.heap.size < (wr.alloc (Obj.cells #[Value.string x.name, Value.slice A3 x.args.length c3] 45)).heap.size := heap_lt hX4
          clear hE4
          have HG4 : Hid (∀ g, (Value.slice Ax r cx).ownBlock = some g → g < wr.heap.size) := fun g hg => by
            have h1 := HKX.out.row
            rw [hlr] at h1
            exact (row_lt h1 g hg).2
          go_wp2
          have hE6 : Ext (wr.alloc (Obj.cells #[Value.string x.name, Value.slice A3 x.args.length c3] 45)) (wr.alloc (Obj.cells #[Value.string x.name, Value.slice A3 x.args.length c3] 45)).drew := (Ext.rf _).drew
          have HX6 : Hid ((wr.alloc (Obj.cells #[Value.string x.name, Value.slice A3 x.args.length c3] 45)).drew.heap[wr.heap.size]? = some (Obj.cells #[Value.string x.name, Value.slice A3 x.args.length c3] 45 (0, 0))) := hX4
          have HE6 := Lib.hid (HE4.out.tr hE6)
          have HKX6 := Lib.hid (HKX4.out.ext hE6)
          have HA6 := Lib.hid (HA4.out.below hE6)
          clear hE6 hX4
          refine wp_region_held_drew (S := fun w' => w'.cell? ⟨wr.heap.size, 0, none⟩ = some (.string x.name) ∧ w'.cell? ⟨wr.heap.size, 1, none⟩ = some (.slice A3 x.args.length c3)) (by kernel_rfl) ⟨cellAt HX6.out 0, cellAt HX6.out 1⟩ (fun hHeld => ?_)
          generalize World.drew _ = w6 at *
          refine wpAnyH_take (i := 0) (oi := ⟨some 22, Op.move (Operand.tmp 6), 46, _, #[], none⟩) (v := ?v0) rfl (by kernel_rfl) (by kernel_rfl) (by kernel_rfl) (fun _ _ _ h => h) (Or.inl ⟨by rfl, ?hy0⟩) (by assumption) ?rest0
          case hy0 =>
            intro w hSw
            try dsimp only at hSw
            go_simp
            try with_reducible rfl
          try simp only [Act.put, List.setIfInBounds_toArray, List.set_cons_zero, List.set_cons_succ]
          refine wpAnyH_take (i := 1) (oi := ⟨some 23, Op.fieldAddr 45 (Operand.tmp 8) 0, 0, _, #[], none⟩) (v := ?v1) rfl (by kernel_rfl) (by kernel_rfl) (by kernel_rfl) (fun _ _ _ h => h) (Or.inl ⟨by rfl, ?hy1⟩) (by assumption) ?rest1
          case hy1 =>
            intro w hSw
            try dsimp only at hSw
            go_simp
            try with_reducible rfl
          try simp only [Act.put, List.setIfInBounds_toArray, List.set_cons_zero, List.set_cons_succ]
          refine wpAnyH_take (i := 2) (oi := ⟨some 24, Op.load 9 (Operand.tmp 23), 9, _, #[⟨1, Ground.data⟩], none⟩) (v := ?v2) rfl (by kernel_rfl) (by kernel_rfl) (by kernel_rfl) (fun _ _ _ h => h) (Or.inl ⟨by rfl, ?hy2⟩) (by assumption) ?rest2
          case hy2 =>
            intro w hSw
            try dsimp only at hSw
            go_simp
            try with_reducible rfl
          try simp only [Act.put, List.setIfInBounds_toArray, List.set_cons_zero, List.set_cons_succ]
          refine wpAnyH_take (i := 3) (oi := ⟨some 25, Op.fieldAddr 45 (Operand.tmp 8) 1, 0, _, #[], none⟩) (v := ?v3) rfl (by kernel_rfl) (by kernel_rfl) (by kernel_rfl) (fun _ _ _ h => h) (Or.inl ⟨by rfl, ?hy3⟩) (by assumption) ?rest3
          case hy3 =>
            intro w hSw
            try dsimp only at hSw
            go_simp
            try with_reducible rfl
          try simp only [Act.put, List.setIfInBounds_toArray, List.set_cons_zero, List.set_cons_succ]
          refine wpAnyH_take (i := 4) (oi := ⟨some 26, Op.load 43 (Operand.tmp 25), 43, _, #[⟨3, Ground.data⟩], none⟩) (v := ?v4) rfl (by kernel_rfl) (by kernel_rfl) (by kernel_rfl) (fun _ _ _ h => h) (Or.inl ⟨by rfl, ?hy4⟩) (by assumption) ?rest4
          case hy4 =>
            intro w hSw
            try dsimp only at hSw
            go_simp
            try with_reducible rfl
          try simp only [Act.put, List.setIfInBounds_toArray, List.set_cons_zero, List.set_cons_succ]
          refine wpAnyH_ready (rs := [5]) (by kernel_rfl) (by simp) ?_
          refine AllReadyH.cons (o := ⟨some 27, Op.call ⟨Callee.builtin Builtin.append, #[Operand.const (Value.slice none 0 0), Operand.tmp 26], #[43, 43]⟩, 43, _, #[⟨4, Ground.data⟩], none⟩) rfl (fun K hK => ?_) ?_
          · refine step_app rfl (app_row (z := .agg #[.int .i64 0, .bool false]) Try.uu43 Try.info50 rfl (by decide) (.const (.slice none 0 0)) (.tmp 26) rfl 0 (.slice none 0 0) 0 [] rfl own_nil' A3 x.args.length c3 (argCells x.args) rfl HA6.out.src (argCells_one _) (by unfold maxLen; omega) (by omega) (Nat.zero_le _) ?_)
            intro v1 w7 hown1 hg1 hat1
            have hown1 : KArgs w7 v1 x.args := by
              have h1 := hown1
              rw [Nat.zero_add, List.nil_append] at h1
              exact h1
            obtain ⟨A7, c7, rfl, -⟩ := row_form hown1
            have hE7 := grown_ext hg1
            have HE7 := Lib.hid (HE6.out.tr hE7)
            have HKX7 := Lib.hid (HKX6.out.ext hE7)
            have HX7 := Lib.hid ((hE7.block _ (heap_lt HX6.out)).trans HX6.out)
            have HV7 := Lib.hid hown1
            clear hown1 hg1 hat1 hE7
            refine hK.out _ _ ⟨cellAt HX7.out 0, cellAt HX7.out 1⟩ (fun hHeld => ?_)
            clear hK K
            try simp only [Act.put, List.setIfInBounds_toArray, List.set_cons_zero, List.set_cons_succ]
            refine wpAnyH_take (i := 6) (oi := ⟨some 28, Op.build 45 #[(0, Operand.tmp 24), (1, Operand.tmp 27)], 45, _, #[⟨2, Ground.data⟩, ⟨5, Ground.data⟩], none⟩) (v := ?v6) rfl (by kernel_rfl) (by kernel_rfl) (by kernel_rfl) (fun _ _ _ h => h) (Or.inl ⟨by rfl, ?hy6⟩) (by assumption) ?rest6
            case hy6 =>
              intro w hSw
              try dsimp only at hSw
              go_simp
              try with_reducible rfl
            try simp only [Act.put, List.setIfInBounds_toArray, List.set_cons_zero, List.set_cons_succ]
            refine wpAnyH_ready (rs := [7]) (by kernel_rfl) (by simp) ?_
            refine AllReadyH.cons (o := ⟨some 29, Op.buildSlice 46 1 #[(0, Operand.tmp 28)], 46, _, #[⟨6, Ground.data⟩], none⟩) rfl (fun K hK => ?_) ?_
            · go_simp
              have hE8 := Ext.al w7 (.cells #[.string x.name, .slice A7 x.args.length c7] 45)
              have HN8 := Lib.hid (heapNew w7 (.cells #[.string x.name, .slice A7 x.args.length c7] 45))
              have HE8 := Lib.hid (HE7.out.tr hE8)
              have HKX8 := Lib.hid (HKX7.out.ext hE8)
              have HX8 := Lib.hid ((hE8.block _ (heap_lt HX7.out)).trans HX7.out)
              have HV8 : Hid (KArgs (w7.alloc (.cells #[.string x.name, .slice A7 x.args.length c7] 45)) (.slice A7 x.args.length c7) x.args) := row_ext HV7.out hE8
              clear hE8
              refine hK.out _ _ ⟨cellAt HX8.out 0, cellAt HX8.out 1⟩ (fun hHeld => ?_)
              clear hK K
              try simp only [Act.put, List.setIfInBounds_toArray, List.set_cons_zero, List.set_cons_succ]
              refine wpAnyH_ready (rs := [8]) (by kernel_rfl) (by simp) ?_
              refine AllReadyH.cons (o := ⟨some 30, Op.call ⟨Callee.builtin Builtin.append, #[Operand.tmp 22, Operand.tmp 29], #[46, 46]⟩, 46, _, #[⟨0, Ground.data⟩, ⟨7, Ground.data⟩, ⟨5, Ground.chain⟩], none⟩) rfl (fun K hK => ?_) ?_
              · have hrow := HKX8.out.row
                rw [hlr] at hrow
                refine step_app rfl (app_row (z := .agg #[.string ⟨#[]⟩, .slice none 0 0]) Try.uu46 Try.info45 rfl (by decide) (.tmp 22) (.tmp 29) rfl w2.heap.size (.slice Ax r cx) r (xtCells (xs.take r) vas) rfl hrow (some ⟨w7.heap.size, 0, none⟩) 1 1 [.string x.name, .slice A7 x.args.length c7] rfl ?_ ?_ ?_ ?_ ?_ ?_)
                · exact .inr ⟨_, rfl, rfl, fun j u hj => by
                    match j, hj with
                    | 0, hj => cases hj; rw [add_at]; exact cellAt HN8.out 0
                    | 1, hj => cases hj; rw [add_at]; exact cellAt HN8.out 1⟩
                · intro u hu
                  simp only [List.mem_cons, List.not_mem_nil, or_false] at hu
                  rcases hu with rfl | rfl <;> rfl
                · unfold maxLen; omega
                · omega
                · have h1 := HE8.out.size
                  exact h1
                intro v9 w9 hown9 hg9 hat9
                obtain ⟨A9, c9, rfl, -⟩ := row_form hown9
                have HX9 := Lib.hid ((hg9.block _ (heap_lt HX8.out) (fun e => by have := HG4.out _ e.symm; omega)).trans HX8.out)
                have HE9 : Hid (Ext w2 w9) := HE8.out.grown hg9 HE8.out.size (fun g e => (row_lt hrow g e).1)
                have HKX9 : Hid (KX w9 w2.heap.size (.slice A9 (r + 1) c9) (xs.take r ++ [x]) (vas ++ [.slice A7 x.args.length c7])) := by
                  have h1 := HKX8.out
                  rw [hlr] at h1
                  exact h1.snoc hg9 (by rw [hlr]; exact hown9) HV8.out
                clear hown9 hg9 hat9 hrow
                refine hK.out _ _ ⟨cellAt HX9.out 0, cellAt HX9.out 1⟩ (fun hHeld => ?_)
                clear hK K
                try simp only [Act.put, List.setIfInBounds_toArray, List.set_cons_zero, List.set_cons_succ]
                refine wpAnyH_take (i := 9) (oi := ⟨some 6, Op.assign (Operand.tmp 30), 46, _, #[⟨8, Ground.data⟩, ⟨8, Ground.chain⟩, ⟨0, Ground.phase⟩, ⟨1, Ground.phase⟩, ⟨2, Ground.phase⟩, ⟨3, Ground.phase⟩, ⟨4, Ground.phase⟩, ⟨5, Ground.phase⟩, ⟨6, Ground.phase⟩, ⟨7, Ground.phase⟩, ⟨8, Ground.phase⟩], none⟩) (v := ?v9) rfl (by kernel_rfl) (by kernel_rfl) (by kernel_rfl) (fun _ _ _ h => h) (Or.inl ⟨by rfl, ?hy9⟩) (by assumption) ?rest9
                case hy9 =>
                  intro w hSw
                  try dsimp only at hSw
                  go_simp
                  try with_reducible rfl
                try simp only [Act.put, List.setIfInBounds_toArray, List.set_cons_zero, List.set_cons_succ]
                refine wpAnyH_done (by kernel_rfl) ?_ _
                go_wp2
                go_roundw
                case rel =>
                  refine ⟨r + 1, vas ++ [.slice A7 x.args.length c7], by omega, by go_num, ?_, HE9.out⟩
                  rw [HTX.out]
                  exact HKX9.out
                case measure => simp [intOf]; omega
              · exact AllReadyH.nil
            · exact AllReadyH.nil
          · exact AllReadyH.nil
        · have hre : r = xs.length := by omega
          subst hre
          rw [List.take_length] at HKX ⊢
          have HKD := Lib.hid (HK2.out.ext HEc.out)
          have hd := (HEc.out.block _ (heap_lt HD2.out)).trans HD2.out
          have d0 := cellAt hd 0
          have d1 := cellAt hd 1
          have d2 := cellAt hd 2
          have HDD := Lib.hid hd
          clear hd
          have hEa := Ext.al wr (.cells #[.string dn, .bool cd, .slice Ax xs.length cx] 48)
          have HNa := Lib.hid (heapNew wr (.cells #[.string dn, .bool cd, .slice Ax xs.length cx] 48))
          have HEa := Lib.hid ((HE2.out.tr HEc.out).tr hEa)
          have HKDa := Lib.hid (HKD.out.ext hEa)
          have HKXa : Hid (KXtors (wr.alloc (.cells #[.string dn, .bool cd, .slice Ax xs.length cx] 48)) (.slice Ax xs.length cx) xs) := by
            have h1 := HKX.out.ext hEa
            exact ⟨vas, h1.len, row_base h1.row, h1.args⟩
          have hrow : Hid (World.ownsRow (wr.alloc (.cells #[.string dn, .bool cd, .slice Ax xs.length cx] 48)) w.heap.size 48 3 (.slice Ao k co) k (dcCells (l.take k) vxs)) := by
            have h1 := HKDa.out.row
            rw [hlk] at h1
            exact h1
          obtain ⟨i0, hi, hz0, hz1, hz2⟩ := info_parts Try.info48
          have HI := Lib.hid hi; have HZ0 := Lib.hid hz0; have HZ1 := Lib.hid hz1; have HZ2 := Lib.hid hz2
          clear hi hz0 hz1 hz2 hEa
          go_wp2_with (at_builtin; refine wpList_append_own_at _ rfl (.tmp 32) (.tmp 39) 22 rfl w.heap.size 48 i0 (.agg #[.string ⟨#[]⟩, .bool false, .slice none 0 0]) 3 48 Try.uu22 HI.out HZ0.out HZ1.out HZ2.out rfl (by decide) (.slice Ao k co) k (dcCells (l.take k) vxs) rfl hrow.out ⟨wr.heap.size, 0, none⟩ 1 1 [.string dn, .bool cd, .slice Ax xs.length cx] rfl rfl ?c1 ?c2 ?c3 ?c4 ?c5 ?_)
          case c1 =>
            intro j u hj
            match j, hj with
            | 0, hj => cases hj; rw [add_at]; exact cellAt HNa.out 0
            | 1, hj => cases hj; rw [add_at]; exact cellAt HNa.out 1
            | 2, hj => cases hj; rw [add_at]; exact cellAt HNa.out 2
          case c2 =>
            intro u hu
            simp only [List.mem_cons, List.not_mem_nil, or_false] at hu
            rcases hu with rfl | rfl | rfl <;> rfl
          case c3 => unfold maxLen; omega
          case c4 => omega
          case c5 => exact HEa.out.size
          intro vo' w9 hown9 hg9 _ _
          have HG9 := Lib.hid hg9; have HO9 := Lib.hid hown9
          clear hg9 hown9
          go_wp2
          go_roundw
          case rel =>
            refine ⟨k + 1, vxs ++ [.slice Ax xs.length cx], by omega, by go_num, ?_, HEa.out.grown HG9.out HEa.out.size (fun g e => (row_lt hrow.out g e).1)⟩
            rw [HTK.out]
            have h1 := HKDa.out
            rw [hlk] at h1
            exact h1.snoc HG9.out (by rw [hlk]; exact HO9.out) HKXa.out
          case measure => simp [intOf]; omega
    · have hke : k = l.length := by omega
      subst hke
      rw [List.take_length] at HK ⊢
      go_wp2
      go_ret
      exact ⟨⟨_, vxs, rfl, HK.out⟩, HE.out⟩
end Go.Proofs.Ytoopngnmdgcklaa
