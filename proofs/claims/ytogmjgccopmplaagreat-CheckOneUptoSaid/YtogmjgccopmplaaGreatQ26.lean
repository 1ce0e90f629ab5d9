/- ref.go: names, Params; ref01: Data, Producers. -/
import Derived.Test.YtogmjgccopmplaaGreatQ25
namespace Go.Proofs.YtogmjgccopmplaaGreat
open Go.RowKit

theorem codB_decl (P : Pg) (t : Int) : codB P.decls t = isDeclB P t true := by
  unfold isDeclB
  by_cases h : 1 ≤ t ∧ t ≤ P.decls.length
  · obtain ⟨u, rfl⟩ : ∃ u : Nat, t = u + 1 := ⟨(t - 1).toNat, by omega⟩
    have hu : u < P.decls.length := by omega
    rw [codB_in hu]
    simp [declAt, hu]; omega
  · rw [codB_out h]
    symm
    by_cases h1 : 1 ≤ t
    · have h2 : ¬ t ≤ P.decls.length := fun h2 => h ⟨h1, h2⟩
      simp [h2]
    · simp [h1]
theorem data_decl (P : Pg) {u : Nat} (hu : u < P.decls.length) : isDeclB P (u + 1) false = !(P.decls[u]).codata := by
  unfold isDeclB
  simp [declAt, hu]; omega
theorem data_out (P : Pg) {t : Int} (h : ¬ (1 ≤ t ∧ t ≤ P.decls.length)) : isDeclB P t false = false := by
  unfold isDeclB
  by_cases h1 : 1 ≤ t
  · have h2 : ¬ t ≤ P.decls.length := fun h2 => h ⟨h1, h2⟩
    simp [h2]
  · simp [h1]
theorem RData_any (P : Pg) (v : Value) (t : Int) (w : World) (h : RDecls w v P.decls) :
    Calls Tryz.prog 115 #[v, .int .i64 t] w fun e w' => e = .returned (.bool (isDeclB P t false)) ∧ w = w' := by
  have HR := Lib.hid h
  obtain ⟨A, c, rfl, hc, hm⟩ := h.form
  clear h
  unfold maxLen at hm
  by_cases hr : 1 ≤ t ∧ t ≤ P.decls.length
  · obtain ⟨u, hu⟩ : ∃ u : Nat, t = u + 1 := ⟨(t - 1).toNat, by omega⟩
    subst hu
    have hul : u < P.decls.length := by omega
    clear hr
    have HI := Lib.hid (data_decl P hul)
    obtain ⟨b, o, vx, rfl, hbl, h0, h1, h2, h3, h4⟩ := HR.out.at_ hul
    clear h3
    generalize P.decls[u] = d at *
    go_enter Tryz.func115, Tryz.ntmps115
    go_wp2
    go_ret
    exact ⟨ret_bool (by rw [HI.out]), rfl⟩
  · have HI := Lib.hid (data_out P hr)
    by_cases h1 : 1 ≤ t
    all_goals
      have hn1 : t < 1 ∨ (P.decls.length : Int) < t := by omega
      clear hr
      go_enter Tryz.func115, Tryz.ntmps115
      go_wp2
      go_ret
      exact ⟨ret_bool HI.out.symm, rfl⟩

theorem distF_next (l : List Str) (s : Str) (r : List Str) : distF (fun x => (x.toList == s.toList) || hasS l x) r = distF (hasS (l ++ [s])) r := by
  congr 1
  funext x
  rw [hasS_append, Bool.or_comm]
  simp [hasS]
theorem distB_has (l : List Str) : distB l = distF (hasS []) l := rfl

set_option maxHeartbeats 2000000 in
set_option maxRecDepth 100000 in
theorem names_any (v : Value) (l : List Str) (n : Int) (w : World) (h : RStrs w v l) :
    Calls Tryz.prog 73 #[v, .int .i64 n] w fun e w' => e = .returned (.bool (distB l && decide ((l.length : Int) = n))) ∧ Ext w w' := by
  have H := Lib.hid h
  obtain ⟨A, c, rfl, hc, hm⟩ := h.form
  clear h
  unfold maxLen at hm
  generalize hrr : (distB l && decide ((l.length : Int) = n)) = rr
  have HR : Hid (rr = (distB l && decide ((l.length : Int) = n))) := hrr.symm
  clear hrr
  go_enter Tryz.func73, Tryz.ntmps73
  go_wp2
  go_loopw [9] (fun i wr => ∃ j : Nat, j ≤ l.length ∧ i = .int .i64 j ∧ distB l = distF (hasS (l.take j)) (l.drop j) ∧ Ext w wr) (fun i _ => l.length - (intOf i).toNat)
  case atStart => exact ⟨0, Nat.zero_le _, rfl, by simp [distB_has], Ext.rf _⟩
  case round =>
    obtain ⟨j, hj, rfl, hd, hb⟩ := hrel
    have HD := Lib.hid hd
    have HX := Lib.hid hb
    clear hd hb
    by_cases hlt : j < l.length
    · have HTK := Lib.hid (H.out.take hj)
      obtain ⟨b, o, rfl, hbl, y0, hs⟩ := H.out.at_ hlt
      have y0 := HX.out.keep y0
      have HD2 : Hid (distB l = (nameB l[j] && !hasS (l.take j) l[j] && distF (hasS (l.take (j + 1))) (l.drop (j + 1)))) := by
        show _ = _
        rw [HD.out, List.drop_eq_getElem_cons hlt, distF, distF_next, List.take_succ_eq_append_getElem hlt]
      have HS := Lib.hid hs
      generalize l[j] = s at *
      clear hs
      go_wp2_with fail
      (with_reducible refine (Name_any s _ HS.out).mono ?_)
      rintro e w2 ⟨rfl, hb⟩
      have HX2 : Hid (Ext w w2) := HX.out.tr hb
      clear hb y0
      cases hq : nameB s
      · have HQ := Lib.hid hq
        clear hq
        go_wp2
        go_ret
        exact ⟨ret_bool (by rw [HR.out, HD2.out, HQ.out]; rfl), HX2.out⟩
      · have HQ := Lib.hid hq
        clear hq
        go_wp2_with fail
        (with_reducible refine (In_any _ (l.take j) s w2 (HTK.out.below HX2.out)).mono ?_)
        rintro e w3 ⟨rfl, rfl⟩
        cases hq2 : hasS (l.take j) s
        · have HQ2 := Lib.hid hq2
          clear hq2
          go_wp2
          exact ⟨⟨j + 1, by omega, by go_num, by rw [HD2.out, HQ.out, HQ2.out]; rfl, HX2.out⟩, by simp [intOf]; omega⟩
        · have HQ2 := Lib.hid hq2
          clear hq2
          go_wp2
          go_ret
          exact ⟨ret_bool (by rw [HR.out, HD2.out, HQ.out, HQ2.out]; rfl), HX2.out⟩
    · have HD2 : Hid (distB l = true) := by
        show _ = _
        rw [HD.out, List.drop_eq_nil_of_le (by omega)]; rfl
      go_wp2
      go_ret
      exact ⟨ret_bool (by rw [HR.out, HD2.out, Bool.true_and]; exact Bool.eq_iff_iff.2 (by simp)), HX.out⟩

theorem Tryz.u57 : Tryz.prog.underlying 30 = some (.slice 3) := by kernel_rfl
theorem Tryz.info3 : (Tryz.prog.info? 3).map (fun i => (i.zero, i.size, i.bytes)) = some (some (.int .i64 0), 1, 8) := by kernel_rfl
theorem app_vals {w : World} {ops : Array Oper} {rest : List Oper} {o : Oper} {a : Act} {Q : Exit → Act → World → Prop} {t e size bytes : Nat} {z : Value} (hu : Tryz.prog.underlying t = some (.slice e)) (hinf : (Tryz.prog.info? e).map (fun i => (i.zero, i.size, i.bytes)) = some (some z, size, bytes)) (hzs : z.cells.size = size) (hsz : 0 < size) (hby : bytes ≤ 1000)
    (hgd : o.guard = none) (s x : Operand)
    (ho : o.op = .call { callee := .builtin .append, args := #[s, x], argTypes := #[t, t] }) (B : Nat) (v : Value) (n : Nat) (xs : List Value) (hs : a.eval s = v) (hown : w.ownsRow B e size v n xs)
    (A : Option Addr) (m c : Nat) (news : List Value) (hx : a.eval x = .slice A m c) (hsrc : SrcN w A m size news) (h1 : ∀ u ∈ news, u.oneCell' = true) (hn : n + m ≤ 1000000000) (hB : B ≤ w.heap.size)
    (h : ∀ v' w', w'.ownsRow B e size v' (n + m) (xs ++ news) → w.grownBy w' v.ownBlock → wpList Tryz.prog ops Q rest (a.put o.dst v') w') : wpList Tryz.prog ops Q (o :: rest) a w := by
  have hb : (n + m) * bytes ≤ 1000000000 * 1000 := Nat.mul_le_mul hn hby
  exact wpList_plain hgd fun K hK => app_row hu hinf hzs hsz s x ho B v n xs hs hown A m c news hx hsrc h1 (by unfold maxLen; omega) (by omega) hB (fun v' w' h1 h2 _ => hK _ _ (h v' w' h1 h2))

def prodC (l : List Arg) : Nat := (l.filter fun a => !a.co).length
theorem prodC_step {l : List Arg} {j : Nat} (h : j < l.length) : prodC (l.take (j + 1)) = prodC (l.take j) + (if (l[j]).co then 0 else 1) := by
  unfold prodC
  rw [List.take_succ_eq_append_getElem h, List.filter_append, List.length_append]
  cases h2 : (l[j]).co <;> simp [h2]
theorem prodC_le (l : List Arg) (j : Nat) : prodC (l.take j) ≤ j := by
  unfold prodC
  exact Nat.le_trans (List.length_filter_le _ _) (by simp; omega)

set_option maxHeartbeats 2000000 in
set_option maxRecDepth 100000 in
theorem Producers_any (nm : Str) (va : Value) (l : List Arg) (w : World) (h : RArgs w va l) (hl : l.length ≤ 1000) :
    Calls Tryz.prog 83 #[.agg #[.string nm, va]] w fun e w' => (∃ A c, e = .returned (.slice A (prodC l) c)) ∧ Ext w w' := by
  have H := Lib.hid h
  obtain ⟨A, c, rfl, hc, hm⟩ := h.form
  clear h
  unfold maxLen at hm
  have HE := Lib.hid (Ext.al w (.cells #[.string nm, .slice A l.length c] 67))
  have HB := Lib.hid (heapNew w (.cells #[.string nm, .slice A l.length c] 67))
  have c1 := cellAt HB.out 1
  go_enter Tryz.func83, Tryz.ntmps83
  go_wp2
  generalize w.alloc _ = w1 at *
  clear c1
  go_loopw [3, 9] (fun s i wr => ∃ (j : Nat) (xs : List Value), j ≤ l.length ∧ i = .int .i64 j ∧ wr.ownsRow w.heap.size 3 1 s (prodC (l.take j)) xs ∧ Ext w wr) (fun _ i _ => l.length - (intOf i).toNat)
  case atStart => exact ⟨0, [], Nat.zero_le _, rfl, ⟨by simp [prodC], .inl ⟨rfl, by simp [prodC]⟩⟩, HE.out⟩
  case round =>
    obtain ⟨j, xs, hj, rfl, ho, hb⟩ := hrel
    have HO := Lib.hid ho
    have HX := Lib.hid hb
    clear ho hb
    by_cases hlt : j < l.length
    · obtain ⟨b, o, rfl, hbl, y0, y1⟩ := H.out.at_ hlt
      have y0 := HX.out.keep y0
      have y1 := HX.out.keep y1
      have HPS := Lib.hid (prodC_step hlt)
      have HPL := Lib.hid (prodC_le l j)
      generalize l[j] = x at *
      obtain ⟨ty, co⟩ := x
      dsimp only at *
      cases co
      · have HE8 := Lib.hid (Ext.al2 wr (.cells #[.int .i64 ty, .bool false] 69) (.cells #[.int .i64 ty] 3))
        have hn8 := heapNew (wr.alloc (.cells #[.int .i64 ty, .bool false] 69)) (.cells #[.int .i64 ty] 3)
        rw [World.size_alloc] at hn8
        have HSO : Hid (SrcN _ (some ⟨wr.heap.size + 1, 0, none⟩) 1 1 [.int .i64 ty]) := .inr ⟨_, rfl, rfl, fun i u hu => by
          have hi : i < 1 := (List.getElem?_eq_some_iff.1 hu).1
          match i, hi with
          | 0, _ => rw [add_at]; exact cellAt hn8 0 hu⟩
        clear hn8
        go_wp2_with (at_builtin; refine app_vals Tryz.u57 Tryz.info3 rfl (by decide) (by decide) rfl _ _ rfl w.heap.size _ (prodC (l.take j)) xs rfl (own_below HO.out HE8.out) (some ⟨wr.heap.size + 1, 0, none⟩) 1 1 [.int .i64 ty] rfl HSO.out (fun u hu => by rw [List.mem_singleton.1 hu]; rfl) (by have := HPL.out; omega) (Nat.le_trans HX.out.size HE8.out.size) ?_)
        intro v9 w9 ho9 hg9
        have HX9 : Hid (Ext w w9) := (HX.out.tr HE8.out).trans (grown_ext' hg9 (own_below HO.out HE8.out) (Nat.le_trans HX.out.size HE8.out.size))
        have HO9 : Hid (w9.ownsRow w.heap.size 3 1 v9 (prodC (l.take (j + 1))) (xs ++ [.int .i64 ty])) := by show World.ownsRow _ _ _ _ _ _ _; rw [HPS.out]; exact ho9
        clear ho9 hg9 y0 y1
        go_wp2
        exact ⟨⟨j + 1, _, by omega, by go_num, HO9.out, HX9.out⟩, by simp [intOf]; omega⟩
      · have HE8 := Lib.hid (Ext.al wr (.cells #[.int .i64 ty, .bool true] 69))
        have HO9 : Hid (World.ownsRow (wr.alloc (.cells #[.int .i64 ty, .bool true] 69)) w.heap.size 3 1 u3 (prodC (l.take (j + 1))) xs) := by show World.ownsRow _ _ _ _ _ _ _; rw [HPS.out]; exact own_below HO.out HE8.out
        go_wp2
        exact ⟨⟨j + 1, _, by omega, by go_num, HO9.out, HX.out.tr HE8.out⟩, by simp [intOf]; omega⟩
    · have HV : Hid (∃ A' c', u3 = .slice A' (prodC l) c') := by
        show ∃ A' c', u3 = .slice A' (prodC l) c'
        have h1 := HO.out
        rw [List.take_of_length_le (by omega)] at h1
        rcases h1.2 with ⟨e, h0⟩ | ⟨g, cap, cur, e, _⟩
        · exact ⟨none, 0, by rw [e, h0]⟩
        · exact ⟨_, _, e⟩
      obtain ⟨A', c', rfl⟩ := HV.out
      go_wp2
      go_ret
      exact ⟨⟨_, _, rfl⟩, HX.out⟩

set_option maxHeartbeats 2000000 in
set_option maxRecDepth 100000 in
theorem Params_any (v : Value) (l : List Prm) (w : World) (h : RPrms w v l) (hl : l.length ≤ 1000) :
    Calls Tryz.prog 19 #[v] w fun e w' => ∃ v', e = .returned v' ∧ RStrs w' v' (l.map Prm.nm) ∧ Ext w w' := by
  have H := Lib.hid h
  obtain ⟨A, c, rfl, hc, hm⟩ := h.form
  clear h
  unfold maxLen at hm
  go_enter Tryz.func19, Tryz.ntmps19
  go_wp2
  go_loopw [3, 8] (fun s i wr => ∃ (j : Nat), j ≤ l.length ∧ i = .int .i64 j ∧ wr.ownsRow w.heap.size 9 1 s (l.take j).length (((l.take j).map Prm.nm).map Value.string) ∧ Ext w wr) (fun _ i _ => l.length - (intOf i).toNat)
  case atStart => exact ⟨0, Nat.zero_le _, rfl, ⟨by simp, .inl ⟨rfl, by simp⟩⟩, Ext.rf _⟩
  case round =>
    obtain ⟨j, hj, rfl, ho, hb⟩ := hrel
    have HO := Lib.hid ho
    have HX := Lib.hid hb
    clear ho hb
    by_cases hlt : j < l.length
    · obtain ⟨b, o, rfl, hbl, y0, y1, hs⟩ := H.out.at_ hlt
      have y0 := HX.out.keep y0
      have y1 := HX.out.keep y1
      have HTK : Hid (l.take (j + 1) = l.take j ++ [l[j]]) := List.take_succ_eq_append_getElem hlt
      generalize l[j] = x at *
      obtain ⟨nm, ty⟩ := x
      dsimp only at *
      have HE8 := Lib.hid (Ext.al2 wr (.cells #[.string nm, .int .i64 ty] 74) (.cells #[.string nm] 9))
      have hn8 := heapNew (wr.alloc (.cells #[.string nm, .int .i64 ty] 74)) (.cells #[.string nm] 9)
      rw [World.size_alloc] at hn8
      have HSO : Hid (SrcN _ (some ⟨wr.heap.size + 1, 0, none⟩) 1 1 [.string nm]) := .inr ⟨_, rfl, rfl, fun i u hu => by
        have hi : i < 1 := (List.getElem?_eq_some_iff.1 hu).1
        match i, hi with
        | 0, _ => rw [add_at]; exact cellAt hn8 0 hu⟩
      clear hn8
      go_wp2_with (at_builtin; refine app_vals Tryz.underlying48 Tryz.info9 rfl (by decide) (by decide) rfl _ _ rfl w.heap.size _ (l.take j).length (((l.take j).map Prm.nm).map Value.string) rfl (own_below HO.out HE8.out) (some ⟨wr.heap.size + 1, 0, none⟩) 1 1 [.string nm] rfl HSO.out (fun u hu => by rw [List.mem_singleton.1 hu]; rfl) (by simp; omega) (Nat.le_trans HX.out.size HE8.out.size) ?_)
      intro v9 w9 ho9 hg9
      have HX9 : Hid (Ext w w9) := (HX.out.tr HE8.out).trans (grown_ext' hg9 (own_below HO.out HE8.out) (Nat.le_trans HX.out.size HE8.out.size))
      have HO9 : Hid (w9.ownsRow w.heap.size 9 1 v9 (l.take (j + 1)).length (((l.take (j + 1)).map Prm.nm).map Value.string)) := by
        show World.ownsRow _ _ _ _ _ _ _
        have e1 : (l.take (j + 1)).length = j + 1 := by simp; omega
        have e2 : ((l.take (j + 1)).map Prm.nm).map Value.string = List.take j (List.map (Value.string ∘ Prm.nm) l) ++ [.string nm] := by rw [HTK.out]; simp [List.map_take]
        rw [e1, e2]; exact ho9
      clear ho9 hg9 y0 y1
      go_wp2
      exact ⟨⟨j + 1, by omega, by go_num, HO9.out, HX9.out⟩, by simp [intOf]; omega⟩
    · have HV : Hid (RStrs wr u3 (l.map Prm.nm)) := by
        have h1 := HO.out
        rw [List.take_of_length_le (by omega)] at h1
        rw [← List.length_map (f := Prm.nm)] at h1
        exact own_strs h1 (fun s hs => by
          obtain ⟨x, hx, rfl⟩ := List.mem_map.1 hs
          obtain ⟨i, hi, rfl⟩ := List.getElem_of_mem hx
          obtain ⟨_, _, _, _, _, _, q⟩ := H.out.at_ hi
          exact q)
      go_wp2
      go_ret
      exact ⟨_, rfl, HV.out, HX.out⟩
end Go.Proofs.YtogmjgccopmplaaGreat

/- rules.go: producers; ref.go: Producers. -/
namespace Go.Proofs.YtogmjgccopmplaaGreat
open Go.RowKit

def prodA (l : List Arg) : List Int := (l.filter fun a => !a.co).map Arg.ty
theorem prodA_step {l : List Arg} {j : Nat} (h : j < l.length) : prodA (l.take (j + 1)) = prodA (l.take j) ++ (if (l[j]).co then [] else [(l[j]).ty]) := by
  unfold prodA
  rw [List.take_succ_eq_append_getElem h, List.filter_append, List.map_append]
  cases h2 : (l[j]).co <;> simp [h2]
theorem prodA_le (l : List Arg) (j : Nat) : (prodA (l.take j)).length ≤ j := by
  unfold prodA
  rw [List.length_map]
  exact Nat.le_trans (List.length_filter_le _ _) (by simp; omega)
set_option maxHeartbeats 2000000 in
set_option maxRecDepth 100000 in
theorem prog_prods_any (nm : Str) (va : Value) (l : List Arg) (w : World) (h : RArgs w va l) (hl : l.length ≤ 1000) :
    Calls Tryz.prog 93 #[.agg #[.string nm, va]] w fun e w' => (∃ v, e = .returned v ∧ OwnL w' w.heap.size v (prodA l)) ∧ Ext w w' := by
  have H := Lib.hid h
  obtain ⟨A, c, rfl, hc, hm⟩ := h.form
  clear h
  unfold maxLen at hm
  have HE := Lib.hid (Ext.al w (.cells #[.string nm, .slice A l.length c] 67))
  have HB := Lib.hid (heapNew w (.cells #[.string nm, .slice A l.length c] 67))
  have c1 := cellAt HB.out 1
  go_enter Tryz.func93, Tryz.ntmps93
  go_wp2
  generalize w.alloc _ = w1 at *
  clear c1
  go_loopw [3, 9] (fun s i wr => ∃ (j : Nat), j ≤ l.length ∧ i = .int .i64 j ∧ OwnL wr w.heap.size s (prodA (l.take j)) ∧ Ext w wr) (fun _ i _ => l.length - (intOf i).toNat)
  case atStart => exact ⟨0, Nat.zero_le _, rfl, ⟨by simp [prodA], .inl ⟨rfl, by simp [prodA]⟩⟩, HE.out⟩
  case round =>
    obtain ⟨j, hj, rfl, ho, hb⟩ := hrel
    have HO := Lib.hid ho
    have HX := Lib.hid hb
    clear ho hb
    by_cases hlt : j < l.length
    · obtain ⟨b, o, rfl, hbl, y0, y1⟩ := H.out.at_ hlt
      have y0 := HX.out.keep y0
      have y1 := HX.out.keep y1
      have HPS := Lib.hid (prodA_step hlt)
      have HPL := Lib.hid (prodA_le l j)
      generalize l[j] = x at *
      obtain ⟨ty, co⟩ := x
      dsimp only at *
      cases co
      · have HE8 := Lib.hid (Ext.al2 wr (.cells #[.int .i64 ty, .bool false] 69) (.cells #[.int .i64 ty] 3))
        have hn8 := heapNew (wr.alloc (.cells #[.int .i64 ty, .bool false] 69)) (.cells #[.int .i64 ty] 3)
        rw [World.size_alloc] at hn8
        have HSO : Hid (SrcN _ (some ⟨wr.heap.size + 1, 0, none⟩) 1 1 [.int .i64 ty]) := .inr ⟨_, rfl, rfl, fun i u hu => by
          have hi : i < 1 := (List.getElem?_eq_some_iff.1 hu).1
          match i, hi with
          | 0, _ => rw [add_at]; exact cellAt hn8 0 hu⟩
        clear hn8
        go_wp2_with (at_builtin; refine app_vals Tryz.u57 Tryz.info3 rfl (by decide) (by decide) rfl _ _ rfl w.heap.size _ (prodA (l.take j)).length ((prodA (l.take j)).map (Value.int .i64)) rfl (own_below HO.out HE8.out) (some ⟨wr.heap.size + 1, 0, none⟩) 1 1 [.int .i64 ty] rfl HSO.out (fun u hu => by rw [List.mem_singleton.1 hu]; rfl) (by have := HPL.out; omega) (Nat.le_trans HX.out.size HE8.out.size) ?_)
        intro v9 w9 ho9 hg9
        have HX9 : Hid (Ext w w9) := (HX.out.tr HE8.out).trans (grown_ext' hg9 (own_below HO.out HE8.out) (Nat.le_trans HX.out.size HE8.out.size))
        have HO9 : Hid (OwnL w9 w.heap.size v9 (prodA (l.take (j + 1)))) := by
          show World.ownsRow _ _ _ _ _ _ _
          rw [HPS.out]
          simp only [Bool.false_eq_true, if_false, List.length_append, List.map_append]
          exact ho9
        clear ho9 hg9 y0 y1
        go_wp2
        exact ⟨⟨j + 1, by omega, by go_num, HO9.out, HX9.out⟩, by simp [intOf]; omega⟩
      · have HE8 := Lib.hid (Ext.al wr (.cells #[.int .i64 ty, .bool true] 69))
        have HO9 : Hid (OwnL (wr.alloc (.cells #[.int .i64 ty, .bool true] 69)) w.heap.size u3 (prodA (l.take (j + 1)))) := by
          show World.ownsRow _ _ _ _ _ _ _
          rw [HPS.out]
          simp only [if_true, List.append_nil]
          exact own_below HO.out HE8.out
        go_wp2
        exact ⟨⟨j + 1, by omega, by go_num, HO9.out, HX.out.tr HE8.out⟩, by simp [intOf]; omega⟩
    · have HV : Hid (OwnL wr w.heap.size u3 (prodA l)) := by
        have h1 := HO.out
        rw [List.take_of_length_le (by omega)] at h1
        exact h1
      obtain ⟨A', c', hv⟩ := own_shapeL HV.out
      subst hv
      go_wp2
      go_ret
      exact ⟨⟨_, rfl, HV.out⟩, HX.out⟩
set_option maxHeartbeats 2000000 in
set_option maxRecDepth 100000 in
theorem ref_prods_any (nm : Str) (va : Value) (l : List Arg) (w : World) (h : RArgs w va l) (hl : l.length ≤ 1000) :
    Calls Tryz.prog 83 #[.agg #[.string nm, va]] w fun e w' => (∃ v, e = .returned v ∧ OwnL w' w.heap.size v (prodA l)) ∧ Ext w w' := by
  have H := Lib.hid h
  obtain ⟨A, c, rfl, hc, hm⟩ := h.form
  clear h
  unfold maxLen at hm
  have HE := Lib.hid (Ext.al w (.cells #[.string nm, .slice A l.length c] 67))
  have HB := Lib.hid (heapNew w (.cells #[.string nm, .slice A l.length c] 67))
  have c1 := cellAt HB.out 1
  go_enter Tryz.func83, Tryz.ntmps83
  go_wp2
  generalize w.alloc _ = w1 at *
  clear c1
  go_loopw [3, 9] (fun s i wr => ∃ (j : Nat), j ≤ l.length ∧ i = .int .i64 j ∧ OwnL wr w.heap.size s (prodA (l.take j)) ∧ Ext w wr) (fun _ i _ => l.length - (intOf i).toNat)
  case atStart => exact ⟨0, Nat.zero_le _, rfl, ⟨by simp [prodA], .inl ⟨rfl, by simp [prodA]⟩⟩, HE.out⟩
  case round =>
    obtain ⟨j, hj, rfl, ho, hb⟩ := hrel
    have HO := Lib.hid ho
    have HX := Lib.hid hb
    clear ho hb
    by_cases hlt : j < l.length
    · obtain ⟨b, o, rfl, hbl, y0, y1⟩ := H.out.at_ hlt
      have y0 := HX.out.keep y0
      have y1 := HX.out.keep y1
      have HPS := Lib.hid (prodA_step hlt)
      have HPL := Lib.hid (prodA_le l j)
      generalize l[j] = x at *
      obtain ⟨ty, co⟩ := x
      dsimp only at *
      cases co
      · have HE8 := Lib.hid (Ext.al2 wr (.cells #[.int .i64 ty, .bool false] 69) (.cells #[.int .i64 ty] 3))
        have hn8 := heapNew (wr.alloc (.cells #[.int .i64 ty, .bool false] 69)) (.cells #[.int .i64 ty] 3)
        rw [World.size_alloc] at hn8
        have HSO : Hid (SrcN _ (some ⟨wr.heap.size + 1, 0, none⟩) 1 1 [.int .i64 ty]) := .inr ⟨_, rfl, rfl, fun i u hu => by
          have hi : i < 1 := (List.getElem?_eq_some_iff.1 hu).1
          match i, hi with
          | 0, _ => rw [add_at]; exact cellAt hn8 0 hu⟩
        clear hn8
        go_wp2_with (at_builtin; refine app_vals Tryz.u57 Tryz.info3 rfl (by decide) (by decide) rfl _ _ rfl w.heap.size _ (prodA (l.take j)).length ((prodA (l.take j)).map (Value.int .i64)) rfl (own_below HO.out HE8.out) (some ⟨wr.heap.size + 1, 0, none⟩) 1 1 [.int .i64 ty] rfl HSO.out (fun u hu => by rw [List.mem_singleton.1 hu]; rfl) (by have := HPL.out; omega) (Nat.le_trans HX.out.size HE8.out.size) ?_)
        intro v9 w9 ho9 hg9
        have HX9 : Hid (Ext w w9) := (HX.out.tr HE8.out).trans (grown_ext' hg9 (own_below HO.out HE8.out) (Nat.le_trans HX.out.size HE8.out.size))
        have HO9 : Hid (OwnL w9 w.heap.size v9 (prodA (l.take (j + 1)))) := by
          show World.ownsRow _ _ _ _ _ _ _
          rw [HPS.out]
          simp only [Bool.false_eq_true, if_false, List.length_append, List.map_append]
          exact ho9
        clear ho9 hg9 y0 y1
        go_wp2
        exact ⟨⟨j + 1, by omega, by go_num, HO9.out, HX9.out⟩, by simp [intOf]; omega⟩
      · have HE8 := Lib.hid (Ext.al wr (.cells #[.int .i64 ty, .bool true] 69))
        have HO9 : Hid (OwnL (wr.alloc (.cells #[.int .i64 ty, .bool true] 69)) w.heap.size u3 (prodA (l.take (j + 1)))) := by
          show World.ownsRow _ _ _ _ _ _ _
          rw [HPS.out]
          simp only [if_true, List.append_nil]
          exact own_below HO.out HE8.out
        go_wp2
        exact ⟨⟨j + 1, by omega, by go_num, HO9.out, HX.out.tr HE8.out⟩, by simp [intOf]; omega⟩
    · have HV : Hid (OwnL wr w.heap.size u3 (prodA l)) := by
        have h1 := HO.out
        rw [List.take_of_length_le (by omega)] at h1
        exact h1
      obtain ⟨A', c', hv⟩ := own_shapeL HV.out
      subst hv
      go_wp2
      go_ret
      exact ⟨⟨_, rfl, HV.out⟩, HX.out⟩
end Go.Proofs.YtogmjgccopmplaaGreat

/- visit.go: visit. -/
namespace Go.Proofs.YtogmjgccopmplaaGreat
open Go.RowKit

/-- The checker with its rules. -/
structure RCkR (w : World) (g : Nat) (P : Pg) : Prop where
  base : RCk w g P
  rules : ∀ o : Nat, o ≤ 12 → w.cell? ⟨g, 2 + o, none⟩ = some (.func (.func (ruleN o)) #[.pointer (some ⟨g, 0, none⟩)] #[])
theorem RCkR.below {w w' : World} {g : Nat} {P : Pg} (h : RCkR w g P) (hb : Ext w w') : RCkR w' g P :=
  ⟨h.base.below hb, fun o ho => hb.keep (h.rules o ho)⟩
theorem enter_of {P : Program} {f : FuncId} {fn : Func} {args : Array Value} {w : World} (h : P.funcs[f]? = some fn) (hn : (fn.name == "runtime.NumGoroutine") = false) (hb : fn.body.isNone = false) : Sem.run P (callFunc f args) w = .ok (.enter f args) w := by
  have hn' : fn.name ≠ "runtime.NumGoroutine" := fun e => by rw [e] at hn; simp at hn
  have hb' : fn.body ≠ none := fun e => by rw [e] at hb; simp at hb
  simp [callFunc, go_sem, h, hn', hb']
set_option maxRecDepth 100000 in
theorem rule_enter (o : Nat) (h : o ≤ 12) (args : Array Value) (w : World) : Sem.run Tryz.prog (callFunc (ruleN o) args) w = .ok (.enter (ruleN o) args) w := by
  match o, h with
  | 0, _ => exact enter_of Tryz.func55 (by decide) rfl
  | 1, _ => exact enter_of Tryz.func56 (by decide) rfl
  | 2, _ => exact enter_of Tryz.func57 (by decide) rfl
  | 3, _ => exact enter_of Tryz.func58 (by decide) rfl
  | 4, _ => exact enter_of Tryz.func59 (by decide) rfl
  | 5, _ => exact enter_of Tryz.func60 (by decide) rfl
  | 6, _ => exact enter_of Tryz.func59 (by decide) rfl
  | 7, _ => exact enter_of Tryz.func61 (by decide) rfl
  | 8, _ => exact enter_of Tryz.func62 (by decide) rfl
  | 9, _ => exact enter_of Tryz.func63 (by decide) rfl
  | 10, _ => exact enter_of Tryz.func64 (by decide) rfl
  | 11, _ => exact enter_of Tryz.func65 (by decide) rfl
  | 12, _ => exact enter_of Tryz.func66 (by decide) rfl
theorem okR_nil {c : Bool} {y : Int} {p : List Int} (h : okR c y = .inl p) : p = [] := by
  unfold okR at h; cases c <;> simp at h; first | exact h | exact h.symm
theorem ruleS_nil {P : Pg} {V L : Env} {op n : Int} {nm : Str} {ty : Int} {ps p : List Int} (h : ruleS P V L op n nm ty ps = .inl p) : p = [] := by
  unfold ruleS at h
  by_cases h0 : op = 0
  · rw [if_pos h0] at h
    cases hq : findE V nm with
    | none => rw [hq] at h; exact (Sum.inl.inj h).symm
    | some y => rw [hq] at h; cases h
  rw [if_neg h0] at h
  by_cases h1 : op = 1
  · rw [if_pos h1] at h; cases h
  rw [if_neg h1] at h
  by_cases h2 : op = 2
  · rw [if_pos h2] at h; exact okR_nil h
  rw [if_neg h2] at h
  by_cases h3 : op = 3
  · rw [if_pos h3] at h; exact okR_nil h
  rw [if_neg h3] at h
  by_cases h4 : op = 4
  · rw [if_pos h4] at h; exact okR_nil h
  rw [if_neg h4] at h
  by_cases h5 : op = 5
  · rw [if_pos h5] at h; exact okR_nil h
  rw [if_neg h5] at h
  by_cases h6 : op = 6
  · rw [if_pos h6] at h; exact okR_nil h
  rw [if_neg h6] at h
  by_cases h7 : op = 7
  · rw [if_pos h7] at h; exact okR_nil h
  rw [if_neg h7] at h
  by_cases h8 : op = 8
  · rw [if_pos h8] at h; exact okR_nil h
  rw [if_neg h8] at h
  by_cases h9 : op = 9
  · rw [if_pos h9] at h; exact okR_nil h
  rw [if_neg h9] at h
  by_cases h10 : op = 10
  · rw [if_pos h10] at h; exact okR_nil h
  rw [if_neg h10] at h
  by_cases h11 : op = 11
  · rw [if_pos h11] at h; exact okR_nil h
  rw [if_neg h11] at h
  cases hq : findE L nm with
  | none => rw [hq] at h; exact (Sum.inl.inj h).symm
  | some y => rw [hq] at h; exact okR_nil h
def VisR (B : Nat) (w' : World) (k : Nat) (r : TyR) (e : Ending) : Prop := match r with
  | .inr y => e = .returned (.tuple #[.int .i64 y, .slice none 0 0, .bool true])
  | .inl p => p.length ≤ k ∧ ∃ y vp, e = .returned (.tuple #[.int .i64 y, vp, .bool false]) ∧ OwnL w' B vp p
theorem own_single {w : World} {B : Nat} (hB : B ≤ w.heap.size) (y : Int) : (w.alloc (.cells #[.int .i64 y] 3)).ownsRow B 3 1 (.slice (some ⟨w.heap.size, 0, none⟩) 1 1) ([y] : List Int).length (([y] : List Int).map (Value.int .i64)) :=
  ⟨rfl, .inr ⟨w.heap.size, 1, #[.int .i64 y], rfl, hB, heapNew w _, Nat.le_refl _, by decide, rfl, rfl⟩⟩
theorem RInts.src {w : World} {A : Option Addr} {c : Nat} {l : List Int} (h : RInts w (.slice A l.length c) l) : SrcN w A l.length 1 (l.map (Value.int .i64)) := by
  cases A with
  | none =>
    cases l with
    | nil => exact .inl ⟨rfl, rfl, rfl⟩
    | cons a r =>
      obtain ⟨_, _, hA, _⟩ := h.at_ (k := 0) (by simp)
      cases hA
  | some ad =>
    refine .inr ⟨ad, rfl, by simp, fun j u hu => ?_⟩
    rw [List.getElem?_map] at hu
    obtain ⟨s, hs, rfl⟩ := Option.map_eq_some_iff.1 hu
    obtain ⟨hlt, rfl⟩ := List.getElem?_eq_some_iff.1 hs
    obtain ⟨b, o, hA, _, c0⟩ := h.at_ hlt
    cases hA
    rw [add_at]; exact c0
theorem ints_one (l : List Int) : ∀ u ∈ l.map (Value.int .i64), u.oneCell' = true := by
  intro u hu
  obtain ⟨s, _, rfl⟩ := List.mem_map.1 hu
  rfl

set_option pp.deepTerms true in
set_option maxHeartbeats 8000000 in
set_option maxRecDepth 100000 in
theorem visit4_any (gc : Nat) (P : Pg) (hB : PB P) (hS : ∀ t, fitsT P t = true → t.args.length + t.cls.length ≤ 1000000) : ∀ (k : Nat) (V L : Env) (pv pl : Value) (t : Tm) (ux uc : Value) (w : World), k ≤ 1000000 → RB w V pv → RB w L pl → RT w k t ux uc → RCkR w gc P → Vld P t →
    Calls Tryz.prog 32 #[.pointer (some ⟨gc, 0, none⟩), scV pv pl, tV t ux uc] w fun e w' => VisR w.heap.size w' k (tyT P V L t) e ∧ Ext w w' := by
  intro k
  have HBP := Lib.hid hB; have HSP := Lib.hid hS
  clear hB hS
  have hmx : Tryz.prog.follows .mixedOrders = true := by kernel_rfl
  induction k with
  | zero => intro V L pv pl t ux uc w _ _ _ ht; exact ht.elim
  | succ k ih =>
    intro V L pv pl t ux uc w hkm hV hL ht hk hvd
    have HV := Lib.hid hV; have HL := Lib.hid hL; have HT := Lib.hid ht; have HCK := Lib.hid hk; have HVD := Lib.hid hvd; have HIH := Lib.hid ih
    obtain ⟨qv, rfl⟩ := hV.form
    obtain ⟨ql, rfl⟩ := hL.form
    obtain ⟨_, ⟨Aa, ca, rfl, hca, hma⟩, ⟨Bb, cb, rfl, hcb, hmb⟩⟩ := ht.form
    have hsz := HSP.out t hvd.fits
    clear hV hL ht hk hvd ih
    unfold maxLen at hma hmb
    have HE := Lib.hid (Ext.al2 w (.cells #[.pointer qv, .pointer ql] 81) (.cells #[.int .i64 t.op, .int .i64 t.n, .string t.nm, .int .i64 t.ty, .slice Aa t.args.length ca, .slice Bb t.cls.length cb] 41))
    obtain ⟨hb1, hb2⟩ := box_st w (.pointer qv) (.pointer ql) (.int .i64 t.op) (.int .i64 t.n) (.string t.nm) (.int .i64 t.ty) (.slice Aa t.args.length ca) (.slice Bb t.cls.length cb)
    have HB1 := Lib.hid hb1; have HB2 := Lib.hid hb2
    clear hb1 hb2
    have n4 := cellAt HB2.out 4
    have n5 := cellAt HB2.out 5
    obtain ⟨rT, hrT⟩ : ∃ r, tyT P V L t = r := ⟨_, rfl⟩
    have HRT : Hid (rT = match tyK P V L t 0 (t.args.length + t.cls.length) with | .inl p => .inl p | .inr ps => ruleS P V L t.op t.n t.nm t.ty ps) := hrT.symm.trans (tyT_kids P V L t)
    rw [hrT]
    clear hrT
    go_enter Tryz.func32, Tryz.ntmps32
    go_wp2
    generalize World.alloc (World.alloc w _) _ = w1 at *
    clear n4 n5
    go_loopw [9, 23] (fun s i wr => ∃ (j : Nat) (ps : List Int), j ≤ t.args.length + t.cls.length ∧ i = .int .i64 j ∧ tyK P V L t 0 j = .inr ps ∧ OwnL wr w1.heap.size s ps ∧ Ext w1 wr) (fun _ i _ => t.args.length + t.cls.length - (intOf i).toNat)
    case atStart => exact ⟨0, [], Nat.zero_le _, rfl, rfl, ⟨by simp, .inl ⟨rfl, by simp⟩⟩, Ext.rf _⟩
    case round =>
      obtain ⟨j, ps, hj, rfl, hty, ho, hb⟩ := hrel
      have HTY := Lib.hid hty; have HO := Lib.hid ho; have HX := Lib.hid hb; have HXW := Lib.hid (HE.out.tr hb)
      have HPL := Lib.hid (tyK_len _ _ _ _ _ _ _ hty)
      clear hty ho hb
      have b0 := HX.out.keep (cellAt HB1.out 0)
      have b1 := HX.out.keep (cellAt HB1.out 1)
      have n0 := HX.out.keep (cellAt HB2.out 0)
      have n1 := HX.out.keep (cellAt HB2.out 1)
      have n2 := HX.out.keep (cellAt HB2.out 2)
      have n3 := HX.out.keep (cellAt HB2.out 3)
      have n4 := HX.out.keep (cellAt HB2.out 4)
      have n5 := HX.out.keep (cellAt HB2.out 5)
      by_cases hlt : j < t.args.length + t.cls.length
      · go_wp2_with fail
        (with_reducible refine (child_any gc P V L _ _ k t _ _ j _ (HV.out.below HXW.out) (HL.out.below HXW.out) (HT.out.below HXW.out) (HCK.out.base.below HXW.out) HVD.out.fits HBP.out hlt (by omega)).mono ?_)
        rintro e w2 ⟨⟨xa, xc, qv2, ql2, rfl, ht2, hv2, hl2⟩, hb⟩
        have HT2 := Lib.hid ht2; have HV2 := Lib.hid hv2; have HL2 := Lib.hid hl2; have HX2 := Lib.hid hb; have HXW2 := Lib.hid (HXW.out.tr hb)
        obtain ⟨pv2, rfl⟩ := hv2.form
        obtain ⟨pl2, rfl⟩ := hl2.form
        obtain ⟨_, ⟨Ax, cx, rfl, -, -⟩, ⟨Bx, dx, rfl, -, -⟩⟩ := ht2.form
        have HVK := Lib.hid (HVD.out.kid hlt)
        have HST := Lib.hid (tyK_step P V L t 0 j)
        clear ht2 hv2 hl2 hb b0 b1 n0 n1 n2 n3 n4 n5
        generalize hx : kidT t j = x at *
        generalize hV2 : (kidE P V L t j).1 = V2 at *
        generalize hL2 : (kidE P V L t j).2 = L2 at *
        have HKT := Lib.hid hx; have HKV := Lib.hid hV2; have HKL := Lib.hid hL2
        clear hx hV2 hL2
        go_wp2_with fail
        have HE3 := Lib.hid (Ext.al2 w2 (Obj.cells #[.int .i64 x.op, .int .i64 x.n, .string x.nm, .int .i64 x.ty, .slice Ax x.args.length cx, .slice Bx x.cls.length dx] 41) (Obj.cells #[.pointer pv2, .pointer pl2] 81))
        (with_reducible refine (HIH.out V2 L2 (.pointer pv2) (.pointer pl2) x _ _ _ (by omega) (HV2.out.below HE3.out) (HL2.out.below HE3.out) (HT2.out.below HE3.out) (HCK.out.below (HXW2.out.tr HE3.out)) HVK.out).mono ?_)
        rintro e w4 ⟨hr, hb⟩
        have HX4 := Lib.hid (HE3.out.tr hb)
        have HXW4 := Lib.hid (HXW2.out.tr (HE3.out.tr hb))
        have HX14 := Lib.hid ((HX.out.tr HX2.out).tr (HE3.out.tr hb))
        have hbase : w.heap.size ≤ ((w2.alloc (Obj.cells #[.int .i64 x.op, .int .i64 x.n, .string x.nm, .int .i64 x.ty, .slice Ax x.args.length cx, .slice Bx x.cls.length dx] 41)).alloc (Obj.cells #[.pointer pv2, .pointer pl2] 81)).heap.size := (HXW2.out.tr HE3.out).size
        generalize ((w2.alloc (Obj.cells #[.int .i64 x.op, .int .i64 x.n, .string x.nm, .int .i64 x.ty, .slice Ax x.args.length cx, .slice Bx x.cls.length dx] 41)).alloc (Obj.cells #[.pointer pv2, .pointer pl2] 81)).heap.size = B3 at hr hbase
        clear hb
        obtain ⟨rx, hrx⟩ : ∃ r, tyT P V2 L2 x = r := ⟨_, rfl⟩
        have HRX := Lib.hid hrx
        rw [hrx] at hr
        clear hrx
        cases rx with
        | inr y =>
          have hr : e = .returned (.tuple #[.int .i64 y, .slice none 0 0, .bool true]) := hr
          subst hr
          have HO4 : Hid (OwnL (w4.alloc (.cells #[.int .i64 y] 3)) w1.heap.size u9 ps) := own_below (own_below HO.out (HX2.out.tr HX4.out)) (Ext.al _ _)
          have hso : SrcN (w4.alloc (.cells #[.int .i64 y] 3)) (some ⟨w4.heap.size, 0, none⟩) ([y] : List Int).length 1 (([y] : List Int).map (Value.int .i64)) := RInts.src (l := [y]) (c := 1) (own_ints (own_single (B := 0) (Nat.zero_le _) y))
          have HSO : Hid (SrcN (w4.alloc (.cells #[.int .i64 y] 3)) (some ⟨w4.heap.size, 0, none⟩) 1 1 [.int .i64 y]) := Lib.hid hso
          clear hso
          go_wp2_with (at_builtin; refine app_vals Tryz.u57 Tryz.info3 rfl (by decide) (by decide) rfl _ _ rfl w1.heap.size _ ps.length (ps.map (Value.int .i64)) rfl HO4.out (some ⟨w4.heap.size, 0, none⟩) 1 1 [.int .i64 y] rfl HSO.out (fun u hu => by rw [List.mem_singleton.1 hu]; rfl) (by have := HPL.out; omega) (Nat.le_trans HX14.out.size (Ext.al w4 _).size) ?_)
          intro v9 w9 ho9 hg9
          have HX9 : Hid (Ext w1 w9) := (HX14.out.tr (Ext.al _ _)).trans (grown_ext' hg9 HO4.out (Nat.le_trans HX14.out.size (Ext.al w4 _).size))
          have HO9 : Hid (OwnL w9 w1.heap.size v9 (ps ++ [y])) := by
            show World.ownsRow _ _ _ _ _ _ _
            rw [List.length_append, List.map_append]
            exact ho9
          have HTY9 : Hid (tyK P V L t 0 (j + 1) = .inr (ps ++ [y])) := by
            show _ = _
            rw [HST.out, HTY.out]
            simp only [Nat.zero_add]
            rw [HKT.out, HKV.out, HKL.out, HRX.out]
          clear ho9 hg9
          go_wp2
          exact ⟨⟨j + 1, ps ++ [y], by omega, by go_num, HTY9.out, HO9.out, HX9.out⟩, by simp [intOf]; omega⟩
        | inl p =>
          obtain ⟨hpl, y, vp, he, hown⟩ := hr
          subst he
          obtain ⟨A', c', hv⟩ := own_shapeL hown
          subst hv
          have hso : SrcN (w4.alloc (.cells #[.int .i64 j] 3)) A' p.length 1 (p.map (Value.int .i64)) := ((own_ints hown).below (Ext.al _ _)).src
          have HSO := Lib.hid hso
          clear hso
          have HPB := Lib.hid hpl
          have HSG := Lib.hid (own_single (w := w4) (B := w.heap.size) HXW4.out.size (j : Int))
          clear hown
          go_wp2_with (at_builtin; refine app_vals Tryz.u57 Tryz.info3 rfl (by decide) (by decide) rfl _ _ rfl w.heap.size _ ([(j : Int)] : List Int).length (([(j : Int)] : List Int).map (Value.int .i64)) rfl HSG.out A' p.length c' (p.map (Value.int .i64)) rfl HSO.out (ints_one p) (by simp; omega) (Nat.le_trans HXW4.out.size (Ext.al w4 _).size) ?_)
          intro v9 w9 ho9 hg9
          have HX9 : Hid (Ext w w9) := (HXW4.out.tr (Ext.al _ _)).trans (grown_ext' hg9 HSG.out (Nat.le_trans HXW4.out.size (Ext.al w4 _).size))
          have HO9 : Hid (OwnL w9 w.heap.size v9 ((j : Int) :: p)) := by
            show World.ownsRow _ _ _ _ _ _ _
            rw [List.length_cons, Nat.add_comm]
            exact ho9
          have hrt : rT = .inl ((j : Int) :: p) := by
            have h1 : tyK P V L t 0 (j + 1) = .inl ((j : Int) :: p) := by
              rw [HST.out, HTY.out]
              simp only [Nat.zero_add]
              rw [HKT.out, HKV.out, HKL.out, HRX.out]
            rw [HRT.out, tyK_bad P V L t (j + 1) (t.args.length + t.cls.length) 0 _ (by omega) h1]
          have HRTE := Lib.hid hrt
          clear ho9 hg9 hrt
          go_wp2
          go_ret3
          rw [HRTE.out]
          exact ⟨⟨by have := HPB.out; simp; omega, _, _, rfl, HO9.out⟩, HX9.out⟩
      · go_upto_region 11 with fail
        have hje : j = t.args.length + t.cls.length := by omega
        subst hje
        obtain ⟨o, hop, ho12⟩ := fits_op HVD.out.fits
        obtain ⟨A', c', hv⟩ := own_shapeL HO.out
        subst hv
        obtain ⟨y, b, hag, hcall⟩ := rule_any gc P V L (.pointer qv) (.pointer ql) (k + 1) t _ _ _ ps wr (HV.out.below HXW.out) (HL.out.below HXW.out) (HT.out.below HXW.out) (HCK.out.base.below HXW.out) (own_ints HO.out) HVD.out.fits HBP.out (HPL.out) o hop ho12
        have r0 := ExtOf.cell ((HCK.out.below HXW.out).rules o ho12)
        have HOP := Lib.hid hop
        rw [hop] at n0
        have b0 := ExtOf.cell b0
        have b1 := ExtOf.cell b1
        have n0 := ExtOf.cell n0
        have n1 := ExtOf.cell n1
        have n2 := ExtOf.cell n2
        have n3 := ExtOf.cell n3
        have n4 := ExtOf.cell n4
        have n5 := ExtOf.cell n5
        simp only [tV, hop] at hcall
        refine wp_region_ext (w0 := wr) hmx (by kernel_rfl) (Ext.rf _) ?_
        repeat (first | go_big_quiet_step ((rw [rule_enter o ho12]; exact ⟨rfl, Calls.ext_of (hcall _ (ExtOf.ext _))⟩)) | quiet_step ((rw [rule_enter o ho12]; exact ⟨rfl, Calls.ext_of (hcall _ (ExtOf.ext _))⟩)))
        refine wpQuiet_nil ?_
        rintro _ ⟨⟨w9, hx⟩, rfl⟩
        have HX9 := Lib.hid (HXW.out.tr hx)
        have hrt : rT = ruleS P V L t.op t.n t.nm t.ty ps := by rw [HRT.out, HTY.out]
        have HRTE := Lib.hid hrt
        have HAG := Lib.hid hag
        clear hx hcall r0 b0 b1 n0 n1 n2 n3 n4 n5 hrt hag
        go_wp2
        go_ret3
        have hag := HAG.out
        rw [← HRTE.out] at hag
        cases rT with
        | inr z =>
          obtain ⟨rfl, rfl⟩ := hag
          exact ⟨rfl, HX9.out⟩
        | inl p =>
          have hb : b = false := hag
          subst hb
          have hp : p = [] := by
            have := HRTE.out
            exact ruleS_nil this.symm
          subst hp
          exact ⟨⟨Nat.zero_le _, _, _, rfl, ⟨by simp, .inl ⟨rfl, by simp⟩⟩⟩, HX9.out⟩
end Go.Proofs.YtogmjgccopmplaaGreat
