/- rules.go: analysis, object. -/
import Derived.Test.YtogmjgccopmplaaGreatQ19
namespace Go.Proofs.YtogmjgccopmplaaGreat
open Go.RowKit
theorem all_cons (p : Int) (x : Int) (l : List Int) : (x :: l).all (fun y => decide (y = p)) = (decide (x = p) && l.all (fun y => decide (y = p))) := rfl
set_option maxHeartbeats 2000000 in
set_option maxRecDepth 100000 in
theorem r_analysis (c : Value) (V L : Env) (pv pl : Value) (k : Nat) (t : Tm) (ux uc : Value) (vp : Value) (p0 p1 : Int) (l : List Int) (w : World) (hV : RB w V pv) (hL : RB w L pl) (ht : RT w k t ux uc) (hp : RInts w vp (p0 :: p1 :: l)) (hl : l.length ≤ 1000000) :
    Calls Tryz.prog 60 #[c, scV pv pl, tV t ux uc, vp] w fun e w' => e = .returned (.tuple #[.int .i64 (if l.all (fun y => decide (y = p1)) then p1 else 0), .bool (l.all (fun y => decide (y = p1)) && decide (p0 = t.ty))]) ∧ Ext w w' := by
  have HV := Lib.hid hV; have HL := Lib.hid hL
  have hmx : Tryz.prog.follows .mixedOrders = true := by kernel_rfl
  obtain ⟨qv, rfl⟩ := hV.form
  obtain ⟨ql, rfl⟩ := hL.form
  obtain ⟨_, ⟨Aa, ca, rfl, -, -⟩, ⟨Bb, cb, rfl, -, -⟩⟩ := ht.form
  clear hV hL ht
  have HE := Lib.hid (Ext.al2 w (.cells #[.pointer qv, .pointer ql] 81) (.cells #[.int .i64 t.op, .int .i64 t.n, .string t.nm, .int .i64 t.ty, .slice Aa t.args.length ca, .slice Bb t.cls.length cb] 41))
  obtain ⟨hb1, hb2⟩ := box_st w (.pointer qv) (.pointer ql) (.int .i64 t.op) (.int .i64 t.n) (.string t.nm) (.int .i64 t.ty) (.slice Aa t.args.length ca) (.slice Bb t.cls.length cb)
  have HB1 := Lib.hid hb1; have HB2 := Lib.hid hb2
  clear hb1 hb2
  have HP := Lib.hid hp
  obtain ⟨Ap, cp, rfl, hpc, hpm⟩ := hp.form
  obtain ⟨bp, op, rfl, -, f0⟩ := hp.at_ (k := 0) (by simp)
  obtain ⟨bq1, oq1, e1, -, f1⟩ := hp.at_ (k := 1) (by simp)
  cases e1
  simp only [Nat.add_zero, List.getElem_cons_zero, List.getElem_cons_succ] at f0 f1
  have HFW0 := Lib.hid f0
  have HF0 := Lib.hid (HE.out.keep f0)
  have HF1 := Lib.hid (HE.out.keep f1)
  have HLE : Hid (∀ j y, l[j]? = some y → w.cell? ⟨bp, op + (j + 2), none⟩ = some (.int .i64 y)) := fun j y hj => by
    obtain ⟨A', c', he, -, -, h3⟩ := hp
    cases he
    obtain ⟨b, o, e, _, hc⟩ := h3 (j + 2) y (by simpa using hj)
    cases e
    exact hc
  clear hp f0 f1
  have hl0 : 0 < (p0 :: p1 :: l).length := by simp
  have hl1 : 1 < (p0 :: p1 :: l).length := by simp
  have hl2 : (p0 :: p1 :: l).length = l.length + 2 := by simp
  unfold maxLen at hpm
  generalize (p0 :: p1 :: l).length = n at *
  subst hl2
  have HAL : Hid (l.all (fun y => decide (y = p1)) = l.all (fun y => decide (y = p1))) := rfl
  obtain ⟨ra, hra⟩ : ∃ ra, l.all (fun y => decide (y = p1)) = ra := ⟨_, rfl⟩
  have HRA := Lib.hid hra
  rw [hra]
  clear hra HAL
  obtain ⟨yv, hyv⟩ : ∃ yv : Int, (if ra = true then p1 else 0) = yv := ⟨_, rfl⟩
  have HY := Lib.hid hyv
  rw [hyv]
  clear hyv
  go_enter Tryz.func60, Tryz.ntmps60
  by_cases hcap : cp = 2
  · have hl0' : l.length = 0 := by omega
    subst hcap
    go_upto_region 1 with fail
    generalize World.alloc (World.alloc w _) _ = w1 at *
    have c0 := ExtOf.cell HF0.out
    have c1 := ExtOf.cell HF1.out
    refine wp_region_ext (w0 := w1) hmx (by kernel_rfl) (Ext.rf _) ?_
    repeat (first | go_big_quiet_step (fail) | quiet_step (fail))
    refine wpQuiet_nil ?_
    rintro _ ⟨⟨w2, hx⟩, rfl⟩
    have HX2 := Lib.hid hx
    have HW2 := Lib.hid (HE.out.tr hx)
    clear hx
    clear c0 c1
    go_wp2
    go_loopw [21] (fun i wr => ∃ j : Nat, j ≤ l.length ∧ i = .int .i64 j ∧ ra = (l.drop j).all (fun y => decide (y = p1)) ∧ Ext w1 wr) (fun i _ => l.length - (intOf i).toNat)
    case atStart => exact ⟨0, Nat.zero_le _, rfl, HRA.out.symm, HX2.out⟩
    case round =>
      obtain ⟨j, hj, rfl, hr, hb⟩ := hrel
      have HR := Lib.hid hr; have HX3 := Lib.hid hb; have HX := Lib.hid (HE.out.tr hb)
      clear hr hb
      by_cases hlt : j < l.length
      · exfalso; omega
      · have HR1 : Hid (ra = true) := by show ra = true; rw [HR.out, drop_end hlt]; rfl
        generalize wr = wl at *
        go_upto_region 8 with fail
        have hk0 : wl.cell? ⟨bp, op, none⟩ = some (.int .i64 p0) := HX.out.keep HFW0.out
        have c0 := ExtOf.cell hk0
        have n3 := ExtOf.cell (HX3.out.keep (cellAt HB2.out 3))
        refine wp_region_ext (w0 := wl) hmx (by kernel_rfl) (Ext.rf _) ?_
        repeat (first | go_big_quiet_step (fail) | quiet_step (fail))
        refine wpQuiet_nil ?_
        rintro _ ⟨⟨w9, hx⟩, rfl⟩
        have HX9 := Lib.hid (HX.out.tr hx)
        clear hx
        go_wp2
        go_ret2
        exact ⟨by rw [← HY.out, HR1.out]; rfl, HX9.out⟩
  · have hcap2 : ¬ cp - 2 = 0 := by omega
    go_upto_region 1 with fail
    generalize World.alloc (World.alloc w _) _ = w1 at *
    have c0 := ExtOf.cell HF0.out
    have c1 := ExtOf.cell HF1.out
    refine wp_region_ext (w0 := w1) hmx (by kernel_rfl) (Ext.rf _) ?_
    repeat (first | go_big_quiet_step (fail) | quiet_step (fail))
    refine wpQuiet_nil ?_
    rintro _ ⟨⟨w2, hx⟩, rfl⟩
    have HX2 := Lib.hid hx
    have HW2 := Lib.hid (HE.out.tr hx)
    clear hx
    clear c0 c1
    go_wp2
    go_loopw [21] (fun i wr => ∃ j : Nat, j ≤ l.length ∧ i = .int .i64 j ∧ ra = (l.drop j).all (fun y => decide (y = p1)) ∧ Ext w1 wr) (fun i _ => l.length - (intOf i).toNat)
    case atStart => exact ⟨0, Nat.zero_le _, rfl, HRA.out.symm, HX2.out⟩
    case round =>
      obtain ⟨j, hj, rfl, hr, hb⟩ := hrel
      have HR := Lib.hid hr; have HX3 := Lib.hid hb; have HX := Lib.hid (HE.out.tr hb)
      clear hr hb
      by_cases hlt : j < l.length
      · have c2 := HX.out.keep (HLE.out j _ (List.getElem?_eq_getElem hlt))
        have HD := Lib.hid (drop_step hlt)
        generalize l[j] = x at *
        rw [show op + (j + 2) = op + 2 + j by omega] at c2
        cases hq : decide (x = p1)
        · have hq' : (x != p1) = true := by simpa using hq
          have HQ := Lib.hid hq
          clear hq
          go_wp2
          go_ret2
          have hrf : ra = false := by rw [HR.out, HD.out, all_cons, HQ.out]; rfl
          exact ⟨by rw [← HY.out, hrf]; rfl, HX.out⟩
        · have hq' : (x != p1) = false := by simpa using hq
          have HQ := Lib.hid hq
          clear hq
          go_wp2
          exact ⟨⟨j + 1, by omega, by go_num, by rw [HR.out, HD.out, all_cons, HQ.out]; rfl, HX3.out⟩, by simp [intOf]; omega⟩
      · have HR1 : Hid (ra = true) := by show ra = true; rw [HR.out, drop_end hlt]; rfl
        generalize wr = wl at *
        go_upto_region 8 with fail
        have hk0 : wl.cell? ⟨bp, op, none⟩ = some (.int .i64 p0) := HX.out.keep HFW0.out
        have c0 := ExtOf.cell hk0
        have n3 := ExtOf.cell (HX3.out.keep (cellAt HB2.out 3))
        refine wp_region_ext (w0 := wl) hmx (by kernel_rfl) (Ext.rf _) ?_
        repeat (first | go_big_quiet_step (fail) | quiet_step (fail))
        refine wpQuiet_nil ?_
        rintro _ ⟨⟨w9, hx⟩, rfl⟩
        have HX9 := Lib.hid (HX.out.tr hx)
        clear hx
        go_wp2
        go_ret2
        exact ⟨by rw [← HY.out, HR1.out]; rfl, HX9.out⟩
def resAll (rs : List Int) (ps : List Int) : Bool := eqL ps rs
set_option maxHeartbeats 2000000 in
set_option maxRecDepth 100000 in
theorem r_object (c : Value) (V L : Env) (pv pl : Value) (k : Nat) (t : Tm) (ux uc : Value) (vp : Value) (gc : Nat) (P : Pg) (u : Nat) (d : Decl) (ps : List Int) (w : World) (hV : RB w V pv) (hL : RB w L pl) (ht : RT w k t ux uc) (hc : c = .pointer (some ⟨gc, 0, none⟩)) (hk : RCk w gc P) (hty : t.ty = ((u + 1 : Nat) : Int)) (hf : P.decls[u]? = some d) (hdl : P.decls.length ≤ 1000000) (hxl : d.xtors.length ≤ 1000000) (hps : ps.length = d.xtors.length) (hp : RInts w vp ps) :
    Calls Tryz.prog 61 #[c, scV pv pl, tV t ux uc, vp] w fun e w' => e = .returned (.tuple #[.int .i64 (if eqL ps ((d.xtors.map (sgX d (u + 1))).map Sg.res) then t.ty else 0), .bool (eqL ps ((d.xtors.map (sgX d (u + 1))).map Sg.res))]) ∧ Ext w w' := by
  have HV := Lib.hid hV; have HL := Lib.hid hL
  have hmx : Tryz.prog.follows .mixedOrders = true := by kernel_rfl
  obtain ⟨qv, rfl⟩ := hV.form
  obtain ⟨ql, rfl⟩ := hL.form
  obtain ⟨_, ⟨Aa, ca, rfl, -, -⟩, ⟨Bb, cb, rfl, -, -⟩⟩ := ht.form
  clear hV hL ht
  have HE := Lib.hid (Ext.al2 w (.cells #[.pointer qv, .pointer ql] 81) (.cells #[.int .i64 t.op, .int .i64 t.n, .string t.nm, .int .i64 t.ty, .slice Aa t.args.length ca, .slice Bb t.cls.length cb] 41))
  obtain ⟨hb1, hb2⟩ := box_st w (.pointer qv) (.pointer ql) (.int .i64 t.op) (.int .i64 t.n) (.string t.nm) (.int .i64 t.ty) (.slice Aa t.args.length ca) (.slice Bb t.cls.length cb)
  have HB1 := Lib.hid hb1; have HB2 := Lib.hid hb2
  clear hb1 hb2
  subst hc
  have HP := Lib.hid hp
  obtain ⟨Ap, cp, rfl, -, -⟩ := hp.form
  clear hp
  have HXS := Lib.hid (xsP_at hf)
  obtain ⟨rs, hrs'⟩ : ∃ rs, d.xtors.map (sgX d (u + 1)) = rs := ⟨_, rfl⟩
  have HRS := Lib.hid hrs'
  rw [hrs'] at HXS ⊢
  have hrl : ps.length = rs.length := by rw [← hrs', List.length_map]; exact hps
  have hrm : rs.length ≤ 1000000 := by omega
  have hul : u + 1 < (xsP P).length := (List.getElem?_eq_some_iff.1 HXS.out).1
  have hulm : (xsP P).length ≤ 1000001 := by rw [xsP_len]; omega
  obtain ⟨-, ⟨vx, g1, hrs⟩⟩ := hk.below HE.out
  obtain ⟨Ax, cx, rfl, -, -⟩ := hrs.form
  obtain ⟨bx, ox, vr, rfl, r0, hrow⟩ := hrs.at_ HXS.out
  obtain ⟨Ar, cr, rfl, -, -⟩ := hrow.form
  have HROW := Lib.hid hrow
  have HG1 := Lib.hid g1; have HR0 := Lib.hid r0
  clear hrs hk hf hrow g1 r0 hrs' HXS hps hxl hdl
  generalize (xsP P).length = nx at *
  have HTY := Lib.hid hty
  clear hty
  obtain ⟨ra, hra⟩ : ∃ ra, eqL ps (rs.map Sg.res) = ra := ⟨_, rfl⟩
  have HRA := Lib.hid hra
  rw [hra]
  clear hra
  obtain ⟨yv, hyv⟩ : ∃ yv : Int, (if ra = true then t.ty else 0) = yv := ⟨_, rfl⟩
  have HY := Lib.hid hyv
  rw [hyv]
  clear hyv
  go_enter Tryz.func61, Tryz.ntmps61
  go_wp2
  generalize World.alloc (World.alloc w _) _ = w1 at *
  go_loopw [14] (fun i wr => ∃ j : Nat, j ≤ ps.length ∧ i = .int .i64 j ∧ ra = eqL (ps.drop j) ((rs.map Sg.res).drop j) ∧ Ext w1 wr) (fun i _ => ps.length - (intOf i).toNat)
  case atStart => exact ⟨0, Nat.zero_le _, rfl, HRA.out.symm, Ext.rf _⟩
  case round =>
    obtain ⟨j, hj, rfl, hr, hb⟩ := hrel
    have HR := Lib.hid hr; have HX3 := Lib.hid hb; have HX := Lib.hid (HE.out.tr hb)
    clear hr hb
    by_cases hlt : j < ps.length
    · have hltr : j < rs.length := by omega
      have hltm : j < (rs.map Sg.res).length := by rw [List.length_map]; exact hltr
      obtain ⟨bq, oq, hA, -, c2⟩ := (HP.out.below HX.out).at_ hlt
      obtain ⟨bs, os, vs, hAr, s0, s1, hsa⟩ := (HROW.out.below HX3.out).at_ (List.getElem?_eq_getElem hltr)
      cases hA; cases hAr
      have HD := Lib.hid (drop_step hlt)
      have HD2 := Lib.hid (drop_step hltm)
      have hgm : (rs.map Sg.res)[j] = (rs[j]).res := List.getElem_map ..
      have HGM := Lib.hid hgm
      obtain ⟨As, cs, rfl, -, -⟩ := hsa.form
      clear hsa hgm
      generalize (rs.map Sg.res)[j] = z at *
      generalize ps[j] = x at *
      generalize rs[j] = sg at *
      have HZ : Hid (z = sg.res) := HGM.out
      have n3 : wr.cell? ⟨w.heap.size + 1, 3, none⟩ = some (.int .i64 t.ty) := HX3.out.keep (cellAt HB2.out 3)
      rw [HTY.out] at n3
      have HN3 := Lib.hid n3
      have HS0 := Lib.hid s0; have HS1 := Lib.hid s1
      clear n3 s0 s1
      go_upto_region 4 with fail
      have n3 := ExtOf.cell HN3.out
      have s0 := ExtOf.cell HS0.out
      have s1 := ExtOf.cell HS1.out
      have g1 := ExtOf.cell (HX3.out.keep HG1.out)
      have r0 := ExtOf.cell (HX3.out.keep HR0.out)
      cases hq : decide (x = sg.res)
      · have hq' : (x != sg.res) = true := by simpa using hq
        have HQ := Lib.hid hq
        clear hq
        refine wp_region_ext (w0 := wr) hmx (by kernel_rfl) (Ext.rf _) ?_
        repeat (first | go_big_quiet_step (fail) | quiet_step (fail))
        refine wpQuiet_nil ?_
        rintro _ ⟨⟨w9, hx⟩, rfl⟩
        have HX9 := Lib.hid (HX.out.tr hx)
        clear hx
        go_wp2
        go_ret2
        have hrf : ra = false := by rw [HR.out, HD.out, HD2.out, HZ.out, eqL_cons, HQ.out]; rfl
        exact ⟨by rw [← HY.out, hrf]; rfl, HX9.out⟩
      · have hq' : (x != sg.res) = false := by simpa using hq
        have HQ := Lib.hid hq
        clear hq
        refine wp_region_ext (w0 := wr) hmx (by kernel_rfl) (Ext.rf _) ?_
        repeat (first | go_big_quiet_step (fail) | quiet_step (fail))
        refine wpQuiet_nil ?_
        rintro _ ⟨⟨w9, hx⟩, rfl⟩
        have HX9 := Lib.hid (HX3.out.tr hx)
        clear hx
        go_wp2
        exact ⟨⟨j + 1, by omega, by go_num, by rw [HR.out, HD.out, HD2.out, HZ.out, eqL_cons, HQ.out]; rfl, HX9.out⟩, by simp [intOf]; omega⟩
    · have HR1 : Hid (ra = true) := by
        show ra = true
        rw [HR.out, drop_end hlt, drop_end (by rw [List.length_map]; omega)]; rfl
      have n3 := HX3.out.keep (cellAt HB2.out 3)
      go_wp2
      go_ret2
      exact ⟨by rw [← HY.out, HR1.out]; rfl, HX.out⟩
end Go.Proofs.YtogmjgccopmplaaGreat

/- scope.go: bind; visit.go: child. -/
namespace Go.Proofs.YtogmjgccopmplaaGreat
open Go.RowKit
theorem set1_box2 {w : World} {r T : Nat} {a b : Value} (h : w.heap[r]? = some (.cells #[a, b] T (0, 0))) (v : Value) : (w.setCell ⟨r, 0, none⟩ v).heap[r]? = some (.cells #[v, b] T (0, 0)) := by
  simp [World.setCell, Array.getElem?_modify, h]
theorem RB.turn {w w' : World} {g : Nat} {c : Array Value} {T : Nat} (hg : w.heap[g]? = some (.cells c T (0, 0))) (hT : ∀ s : Str, c[0]? ≠ some (.string s)) (ho : Only (fun j => j = g) w w') : ∀ {E : Env} {v : Value}, RB w E v → RB w' E v
  | [], _, h => h
  | (s, y) :: r, v, ⟨b, u, h1, h2, h3, h4, h5⟩ => by
    have hne : b ≠ g := fun e => by
      subst e
      unfold World.cell? at h2
      rw [hg] at h2
      exact hT s (by simpa using h2)
    have k : ∀ i x, w.cell? ⟨b, i, none⟩ = some x → w'.cell? ⟨b, i, none⟩ = some x := fun i x hx => (World.cell?_of_block (ho.block b (cell_lt hx) hne)).trans hx
    exact ⟨b, u, h1, k _ _ h2, k _ _ h3, k _ _ h4, RB.turn hg hT ho h5⟩
theorem only2_setB (w : World) (r : Nat) (a' b' : Value) : Only (fun j => j = r) w ((w.setCell ⟨r, 0, none⟩ a').setCell ⟨r, 1, none⟩ b') :=
  have h : ∀ (W : World) (i : Nat) (u : Value), Only (fun j => j = r) W (W.setCell ⟨r, i, none⟩ u) := fun W i u => Only.setCell (C := fun j => j = r) (p := ⟨r, i, none⟩) rfl W u
  (h _ _ _).tr (h _ _ _)
theorem box2_bothB {w : World} {r T : Nat} {a b : Value} (h : w.heap[r]? = some (.cells #[a, b] T (0, 0))) (a' b' : Value) : ((w.setCell ⟨r, 0, none⟩ a').setCell ⟨r, 1, none⟩ b').heap[r]? = some (.cells #[a', b'] T (0, 0)) := by
  simp [World.setCell, Array.getElem?_modify, h]
set_option maxHeartbeats 4000000 in
set_option maxRecDepth 100000 in
theorem bind_any (V L : Env) (pv pl vn vt : Value) (ns : List Str) (ts : List Int) (w : World) (hV : RB w V pv) (hL : RB w L pl) (hn : RStrs w vn ns) (ht : RInts w vt ts) (hl : ns.length ≤ ts.length) :
    Calls Tryz.prog 97 #[scV pv pl, vn, vt] w fun e w' => (∃ u, e = .returned (scV u pl) ∧ RB w' (bindE ns ts V) u ∧ RB w' L pl) ∧ Ext w w' := by
  have HV := Lib.hid hV; have HL := Lib.hid hL; have HN := Lib.hid hn; have HT := Lib.hid ht
  have hmx : Tryz.prog.follows .mixedOrders = true := by kernel_rfl
  obtain ⟨qv, rfl⟩ := hV.form
  obtain ⟨ql, rfl⟩ := hL.form
  obtain ⟨An, cn, rfl, hcn, hmn⟩ := hn.form
  obtain ⟨At, ct, rfl, hct, hmt⟩ := ht.form
  clear hV hL hn ht
  unfold maxLen at hmn hmt
  have HE := Lib.hid (Ext.al2 w (.cells #[.pointer qv, .pointer ql] 81) (.cells #[.pointer none, .pointer none] 81))
  have hb1 := heapNew w (.cells #[.pointer qv, .pointer ql] 81)
  have hbz := heapNew (w.alloc (.cells #[.pointer qv, .pointer ql] 81)) (.cells #[.pointer none, .pointer none] 81)
  rw [World.size_alloc] at hbz
  have HB1 := Lib.hid (((Ext.al (w.alloc (.cells #[.pointer qv, .pointer ql] 81)) (.cells #[.pointer none, .pointer none] 81)).block _ (heap_lt hb1)).trans hb1)
  have HBZ := Lib.hid hbz
  clear hb1 hbz
  go_enter Tryz.func97, Tryz.ntmps97
  go_wp2
  generalize World.alloc (World.alloc w _) _ = w1 at *
  have HZ : Hid (w.heap.size + 1 < w1.heap.size) := heap_lt HBZ.out
  go_loopw [11] (fun i wr => ∃ (j : Nat) (p : Option Addr) (E : Env), j ≤ ns.length ∧ i = .int .i64 j ∧ wr.heap[w.heap.size]? = some (.cells #[.pointer p, .pointer ql] 81 (0, 0)) ∧ RB wr E (.pointer p) ∧ bindE ns ts V = bindE (ns.drop j) (ts.drop j) E ∧ Only (fun j => j = w.heap.size) w1 wr) (fun i _ => ns.length - (intOf i).toNat)
  case atStart => exact ⟨0, qv, V, Nat.zero_le _, rfl, HB1.out, HV.out.below HE.out, rfl, Only.rf _ _⟩
  case round =>
    obtain ⟨j, p, E, hj, rfl, hb, hr, hd, ho⟩ := hrel
    have HB := Lib.hid hb; have HR := Lib.hid hr; have HD := Lib.hid hd; have HO := Lib.hid ho
    have HX : Hid (Ext w wr) := HE.out.trans (ho.below HE.out.size (fun k e => by omega))
    clear hb hr hd ho
    by_cases hlt : j < ns.length
    · have hlt2 : j < ts.length := by omega
      obtain ⟨b1, o1, rfl, -, y0, -⟩ := (HN.out.below HX.out).at_ hlt
      obtain ⟨b2, o2, rfl, -, z0⟩ := (HT.out.below HX.out).at_ hlt2
      have HD1 := Lib.hid (drop_step hlt)
      have HD2 := Lib.hid (drop_step hlt2)
      generalize ns[j] = x at *
      generalize ts[j] = y at *
      have c0 := cellAt HB.out 0
      have y0' := Lib.hid y0
      go_upto_region 4 with fail
      clear y0 y0'
      go_region_with (go_at_call 68; (with_reducible refine (bwith_any E _ x y _ (HR.out.below (Ext.rf _).drew)).mono ?_); rintro e w5 ⟨⟨u, rfl, hr⟩, hb⟩; have HX5 : Hid (Ext wr w5) := Ext.tr (b := wr.drew) (Ext.rf wr).drew hb; obtain ⟨q, rfl⟩ := hr.form; have HR5 := Lib.hid hr; have HB5 := Lib.hid ((HX5.out.block _ (heap_lt HB.out)).trans HB.out); clear hr hb c0 z0; have c0 := cellAt HB5.out 0; have f0 := frozenAt HB5.out 0)
      all_goals
        have HS := Lib.hid (set1_box2 HB5.out (.pointer q))
        have HON : Hid (Only (fun j => j = w.heap.size) w5 (w5.setCell ⟨w.heap.size, 0, none⟩ (.pointer q))) := Only.setCell (C := fun j => j = w.heap.size) (p := ⟨w.heap.size, 0, none⟩) rfl _ _
        have HRT := Lib.hid (RB.turn HB5.out (fun s => by simp) HON.out HR5.out)
        clear c0 f0
        go_wp2
        exact ⟨⟨j + 1, q, (x, y) :: E, by omega, by go_num, HS.out, HRT.out, by rw [HD.out, HD1.out, HD2.out]; rfl, (HO.out.tr (Only.of_ext HX5.out)).tr HON.out⟩, by simp [intOf]; omega⟩
    · have HDE : Hid (bindE ns ts V = E) := by show _ = _; rw [HD.out, drop_end hlt]; rfl
      have HBZr := Lib.hid ((HO.out.block _ HZ.out (by omega)).trans HBZ.out)
      have c0 := cellAt HB.out 0
      have c1 := cellAt HB.out 1
      have q0 := cellAt HBZr.out 0
      have q1 := cellAt HBZr.out 1
      have f0 := frozenAt HBZr.out 0
      have f1 := frozenAt HBZr.out 1
      go_wp2
      have HZZ := Lib.hid (box2_bothB HBZr.out (.pointer p) (.pointer ql))
      have HOZ := Lib.hid (only2_setB wr (w.heap.size + 1) (.pointer p) (.pointer ql))
      clear c0 c1 q0 q1 f0 f1
      generalize World.setCell (World.setCell wr _ _) _ _ = wz at *
      have q0 := cellAt HZZ.out 0
      have q1 := cellAt HZZ.out 1
      unfold bodyPost
      simp [results, go_sem, q0, q1]
      rw [HDE.out]
      exact ⟨⟨RB.turn HBZr.out (fun s => by simp) HOZ.out HR.out, RB.turn HBZr.out (fun s => by simp) HOZ.out (HL.out.below HX.out)⟩, HX.out.trans (HOZ.out.below HX.out.size (fun i e => by omega))⟩
end Go.Proofs.YtogmjgccopmplaaGreat

/- visit.go: child: what is stored. -/
namespace Go.Proofs.YtogmjgccopmplaaGreat
open Go.RowKit
theorem bindE_app : ∀ (ns : List Str) (ts r : List Int) (V : Env), ns.length ≤ ts.length → bindE ns (ts ++ r) V = bindE ns ts V
  | [], ts, r, V, _ => by simp [bindE]
  | s :: n, [], r, V, h => by simp at h
  | s :: n, y :: q, r, V, h => by
    show bindE n (q ++ r) ((s, y) :: V) = bindE n q ((s, y) :: V)
    exact bindE_app n q r _ (by simpa using h)
theorem box_four (w : World) (a b c d : Obj) : ((((w.alloc a).alloc b).alloc c).alloc d).heap[w.heap.size]? = some a ∧ ((((w.alloc a).alloc b).alloc c).alloc d).heap[w.heap.size + 1]? = some b ∧ ((((w.alloc a).alloc b).alloc c).alloc d).heap[w.heap.size + 1 + 1]? = some c ∧ ((((w.alloc a).alloc b).alloc c).alloc d).heap[w.heap.size + 1 + 1 + 1]? = some d := by
  have h1 := heapNew w a
  have h2 := heapNew (w.alloc a) b
  have h3 := heapNew ((w.alloc a).alloc b) c
  have h4 := heapNew (((w.alloc a).alloc b).alloc c) d
  simp only [World.size_alloc] at h2 h3 h4
  exact ⟨((Ext.al3 _ _ _ _).block _ (heap_lt h1)).trans h1, ((Ext.al2 _ _ _).block _ (by simp only [World.size_alloc]; omega)).trans h2, ((Ext.al _ _).block _ (by simp only [World.size_alloc]; omega)).trans h3, h4⟩
theorem set1_box2b {w : World} {r T : Nat} {a b : Value} (h : w.heap[r]? = some (.cells #[a, b] T (0, 0))) (v : Value) : (w.setCell ⟨r, 1, none⟩ v).heap[r]? = some (.cells #[a, v] T (0, 0)) := by
  simp [World.setCell, Array.getElem?_modify, h]
theorem child_store {w w6 : World} {n2 n3 : Nat} (h2 : w6.heap[n2]? = some (.cells #[.int .i64 0, .int .i64 0, .string ⟨#[]⟩, .int .i64 0, .slice none 0 0, .slice none 0 0] 41 (0, 0))) (h3 : w6.heap[n3]? = some (.cells #[.pointer none, .pointer none] 81 (0, 0))) (hne : n2 ≠ n3) (hx : Ext w w6) (l2 : w.heap.size ≤ n2) (l3 : w.heap.size ≤ n3) (a b c d e f p q : Value) :
    ((((((((w6.setCell ⟨n2, 0, none⟩ a).setCell ⟨n2, 1, none⟩ b).setCell ⟨n2, 2, none⟩ c).setCell ⟨n2, 3, none⟩ d).setCell ⟨n2, 4, none⟩ e).setCell ⟨n2, 5, none⟩ f).setCell ⟨n3, 0, none⟩ p).setCell ⟨n3, 1, none⟩ q).heap[n2]? = some (.cells #[a, b, c, d, e, f] 41 (0, 0)) ∧
    ((((((((w6.setCell ⟨n2, 0, none⟩ a).setCell ⟨n2, 1, none⟩ b).setCell ⟨n2, 2, none⟩ c).setCell ⟨n2, 3, none⟩ d).setCell ⟨n2, 4, none⟩ e).setCell ⟨n2, 5, none⟩ f).setCell ⟨n3, 0, none⟩ p).setCell ⟨n3, 1, none⟩ q).heap[n3]? = some (.cells #[p, q] 81 (0, 0)) ∧
    Ext w ((((((((w6.setCell ⟨n2, 0, none⟩ a).setCell ⟨n2, 1, none⟩ b).setCell ⟨n2, 2, none⟩ c).setCell ⟨n2, 3, none⟩ d).setCell ⟨n2, 4, none⟩ e).setCell ⟨n2, 5, none⟩ f).setCell ⟨n3, 0, none⟩ p).setCell ⟨n3, 1, none⟩ q) ∧
    ∀ E v, RB w6 E v → RB ((((((((w6.setCell ⟨n2, 0, none⟩ a).setCell ⟨n2, 1, none⟩ b).setCell ⟨n2, 2, none⟩ c).setCell ⟨n2, 3, none⟩ d).setCell ⟨n2, 4, none⟩ e).setCell ⟨n2, 5, none⟩ f).setCell ⟨n3, 0, none⟩ p).setCell ⟨n3, 1, none⟩ q) E v := by
  have hs : ∀ (W : World) (r i : Nat) (u : Value), Only (fun j => j = r) W (W.setCell ⟨r, i, none⟩ u) := fun W r i u => Only.setCell (C := fun j => j = r) (p := ⟨r, i, none⟩) rfl W u
  have o1 := ((((((hs w6 n2 0 a).tr (hs _ n2 1 b)).tr (hs _ n2 2 c)).tr (hs _ n2 3 d)).tr (hs _ n2 4 e)).tr (hs _ n2 5 f))
  have b2 : ((((((w6.setCell ⟨n2, 0, none⟩ a).setCell ⟨n2, 1, none⟩ b).setCell ⟨n2, 2, none⟩ c).setCell ⟨n2, 3, none⟩ d).setCell ⟨n2, 4, none⟩ e).setCell ⟨n2, 5, none⟩ f).heap[n2]? = some (.cells #[a, b, c, d, e, f] 41 (0, 0)) := by
    simp [World.setCell, Array.getElem?_modify, h2]
  generalize (((((w6.setCell ⟨n2, 0, none⟩ a).setCell ⟨n2, 1, none⟩ b).setCell ⟨n2, 2, none⟩ c).setCell ⟨n2, 3, none⟩ d).setCell ⟨n2, 4, none⟩ e).setCell ⟨n2, 5, none⟩ f = w7 at *
  have b3 : w7.heap[n3]? = some (.cells #[.pointer none, .pointer none] 81 (0, 0)) := (o1.block _ (heap_lt h3) (fun e => hne e.symm)).trans h3
  have o2 := only2_setB w7 n3 p q
  refine ⟨(o2.block _ (heap_lt b2) hne).trans b2, box2_bothB b3 p q, (hx.trans (o1.below hx.size (fun k e => by omega))).trans (o2.below (Nat.le_trans hx.size o1.size) (fun k e => by omega)), fun E v hr => RB.turn b3 (fun s => by simp) o2 (RB.turn h2 (fun s => by simp) o1 hr)⟩
end Go.Proofs.YtogmjgccopmplaaGreat

/- visit.go: child, of an argument. -/
namespace Go.Proofs.YtogmjgccopmplaaGreat
open Go.RowKit
set_option maxHeartbeats 4000000 in
set_option maxRecDepth 100000 in
theorem childA_any (gc : Nat) (P : Pg) (V L : Env) (pv pl : Value) (k : Nat) (t : Tm) (ux uc : Value) (i : Nat) (w : World) (hV : RB w V pv) (hL : RB w L pl) (ht : RT w (k + 1) t ux uc) (hk : RCk w gc P) (hlt : i < t.args.length) :
    Calls Tryz.prog 67 #[.pointer (some ⟨gc, 0, none⟩), scV pv pl, tV t ux uc, .int .i64 i] w fun e w' =>
      (∃ xa xc qv ql, e = .returned (.tuple #[tV (kidT t i) xa xc, scV qv ql]) ∧ RT w' k (kidT t i) xa xc ∧ RB w' (kidE P V L t i).1 qv ∧ RB w' (kidE P V L t i).2 ql) ∧ Ext w w' := by
  have HV := Lib.hid hV; have HL := Lib.hid hL; have HT := Lib.hid ht; have HCK := Lib.hid hk
  have hmx : Tryz.prog.follows .mixedOrders = true := by kernel_rfl
  obtain ⟨qv, rfl⟩ := hV.form
  obtain ⟨ql, rfl⟩ := hL.form
  obtain ⟨_, ⟨Aa, ca, rfl, hca, hma⟩, ⟨Bb, cb, rfl, hcb, hmb⟩⟩ := ht.form
  clear hV hL ht hk
  unfold maxLen at hma hmb
  have HE := Lib.hid ((Ext.al3 w (.cells #[.pointer qv, .pointer ql] 81) (.cells #[.int .i64 t.op, .int .i64 t.n, .string t.nm, .int .i64 t.ty, .slice Aa t.args.length ca, .slice Bb t.cls.length cb] 41) (.cells #[.int .i64 0, .int .i64 0, .string ⟨#[]⟩, .int .i64 0, .slice none 0 0, .slice none 0 0] 41)).tr (Ext.al _ (.cells #[.pointer none, .pointer none] 81)))
  obtain ⟨hb1, hb2, hb3, hb4⟩ := box_four w (.cells #[.pointer qv, .pointer ql] 81) (.cells #[.int .i64 t.op, .int .i64 t.n, .string t.nm, .int .i64 t.ty, .slice Aa t.args.length ca, .slice Bb t.cls.length cb] 41) (.cells #[.int .i64 0, .int .i64 0, .string ⟨#[]⟩, .int .i64 0, .slice none 0 0, .slice none 0 0] 41) (.cells #[.pointer none, .pointer none] 81)
  have HB1 := Lib.hid hb1; have HB2 := Lib.hid hb2; have HB3 := Lib.hid hb3; have HB4 := Lib.hid hb4
  clear hb1 hb2 hb3 hb4
  have n4 := cellAt HB2.out 4
  go_enter Tryz.func67, Tryz.ntmps67
  have HK1 : Hid (kidT t i = t.args[i]) := by show _ = _; unfold kidT; rw [if_pos hlt, List.getD_eq_getElem?_getD, List.getElem?_eq_getElem hlt]; rfl
  have HK2 : Hid (kidE P V L t i = (argV t.op t.nm t.ty i V, argL t.op t.nm t.ty L)) := by show _ = _; unfold kidE; rw [if_pos hlt]
  have hge : ¬ ((t.args.length : Int) ≤ i) := by omega
  go_upto_region 4 with fail
  generalize World.alloc (World.alloc (World.alloc (World.alloc w _) _) _) _ = w1 at *
  clear n4
  obtain ⟨ba, oa, xa, xc, rfl, hbl, yc, yt⟩ := HT.out.arg hlt
  have HTY := Lib.hid yt
  have HYC := Lib.hid yc
  obtain ⟨-, ⟨Ax, cx, rfl, -, -⟩, ⟨Bx, dx, rfl, -, -⟩⟩ := yt.form
  generalize t.args[i] = x at *
  clear yt yc hbl
  have HN : Hid (w.heap.size + 1 + 1 + 1 < w1.heap.size) := heap_lt HB4.out
  have m0 := cellAt HB2.out 0
  by_cases h8 : t.op = 8 ∧ i = 1
  · obtain ⟨h8, rfl⟩ := h8
    have HEV : Hid (argV t.op t.nm t.ty 1 V = (t.nm, t.ty) :: V) := by show _ = _; unfold argV; rw [if_pos ⟨h8, rfl⟩]
    have HEL : Hid (argL t.op t.nm t.ty L = L) := by show _ = _; unfold argL; rw [if_neg (by omega)]
    have hq8 : (t.op == 8) = true := by simp [h8]
    have hq1 : (((1 : Nat) : Int) == 1) = true := by rfl
    clear h8
    have m2 := cellAt HB2.out 2
    have m3 := cellAt HB2.out 3
    have s0 := cellAt HB1.out 0
    go_wp2_with fail
    (with_reducible refine (bwith_any V _ t.nm t.ty _ (HV.out.below HE.out)).mono ?_)
    rintro e w5 ⟨⟨u, rfl, hr⟩, hb⟩
    obtain ⟨qu, rfl⟩ := hr.form
    have HX5 := Lib.hid hb
    have HR5 := Lib.hid hr
    have HC1 := Lib.hid ((hb.block _ (heap_lt HB1.out)).trans HB1.out)
    have HC2 := Lib.hid ((hb.block _ (heap_lt HB2.out)).trans HB2.out)
    have HC3 := Lib.hid ((hb.block _ (heap_lt HB3.out)).trans HB3.out)
    have HC4 := Lib.hid ((hb.block _ (heap_lt HB4.out)).trans HB4.out)
    clear hr hb m0 m2 m3 s0
    have s0 := cellAt HC1.out 0
    have f0 := frozenAt HC1.out 0
    go_upto_region 8 with fail
    clear s0 f0
    have HS1 := Lib.hid (set1_box2 HC1.out (.pointer qu))
    have HON : Hid (Only (fun j => j = w.heap.size) w5 (w5.setCell ⟨w.heap.size, 0, none⟩ (.pointer qu))) := Only.setCell (C := fun j => j = w.heap.size) (p := ⟨w.heap.size, 0, none⟩) rfl _ _
    have HRV := Lib.hid (RB.turn HC1.out (fun s => by simp) HON.out HR5.out)
    have HRL := Lib.hid (RB.turn HC1.out (fun s => by simp) HON.out (HL.out.below (HE.out.tr HX5.out)))
    have HC2 := Lib.hid ((HON.out.block _ (heap_lt HC2.out) (by omega)).trans HC2.out)
    have HC3 := Lib.hid ((HON.out.block _ (heap_lt HC3.out) (by omega)).trans HC3.out)
    have HC4 := Lib.hid ((HON.out.block _ (heap_lt HC4.out) (by omega)).trans HC4.out)
    have HX6 : Hid (Ext w _) := (HE.out.tr HX5.out).trans (HON.out.below (HE.out.tr HX5.out).size (fun k e => by omega))
    generalize World.setCell w5 _ _ = w6 at *
    have yc := HYC.out.below HX6.out
    have k0 := yc.c0
    have k1 := yc.c1
    have k2 := yc.c2
    have k3 := yc.c3
    have k4 := yc.c4
    have k5 := yc.c5
    clear yc
    have s0 := cellAt HS1.out 0
    have s1 := cellAt HS1.out 1
    have n4 := cellAt HC2.out 4
    obtain ⟨z0, z1, z2, z3, z4, z5⟩ := cells6 HC3.out
    have y0 := cellAt HC4.out 0
    have y1 := cellAt HC4.out 1
    have f0 := frozenAt HC3.out 0
    have f1 := frozenAt HC3.out 1
    have f2 := frozenAt HC3.out 2
    have f3 := frozenAt HC3.out 3
    have f4 := frozenAt HC3.out 4
    have f5 := frozenAt HC3.out 5
    have g0 := frozenAt HC4.out 0
    have g1 := frozenAt HC4.out 1
    have HST := Lib.hid (child_store HC3.out HC4.out (by omega) HX6.out (by omega) (by omega) (.int .i64 x.op) (.int .i64 x.n) (.string x.nm) (.int .i64 x.ty) (.slice Ax x.args.length cx) (.slice Bx x.cls.length dx) (.pointer qu) (.pointer ql))
    go_region_with (fail)
    all_goals
      go_wp2
      generalize World.setCell (World.setCell (World.setCell (World.setCell (World.setCell (World.setCell (World.setCell (World.setCell w6 _ _) _ _) _ _) _ _) _ _) _ _) _ _) _ _ = wz at *
      obtain ⟨h2, h3, h4, h5⟩ := HST.out
      have HRV2 := Lib.hid ((h5 _ _ HRV.out).below (Ext.rf _).drew)
      have HRL2 := Lib.hid ((h5 _ _ HRL.out).below (Ext.rf _).drew)
      have HX7 := Lib.hid h4.drew
      clear h4 h5 k0 k1 k2 k3 k4 k5 s0 s1 n4 z0 z1 z2 z3 z4 z5 y0 y1 f0 f1 f2 f3 f4 f5 g0 g1
      obtain ⟨z0, z1, z2, z3, z4, z5⟩ := cells6 h2
      have y0 := cellAt h3 0
      have y1 := cellAt h3 1
      unfold bodyPost
      rw [HK1.out, HK2.out]
      dsimp only
      rw [HEV.out, HEL.out]
      simp [results, go_sem, z0, z1, z2, z3, z4, z5, y0, y1]
      exact ⟨⟨_, _, _, _, ⟨⟨rfl, rfl⟩, rfl, rfl⟩, HTY.out.below HX7.out, HRV2.out, HRL2.out⟩, HX7.out⟩
  by_cases h11 : t.op = 11
  · have HEV : Hid (argV t.op t.nm t.ty i V = V) := by show _ = _; unfold argV; rw [if_neg (by omega)]
    have HEL : Hid (argL t.op t.nm t.ty L = (t.nm, t.ty) :: L) := by show _ = _; unfold argL; rw [if_pos h11]
    have hq8 : (t.op == 8) = false := by simp [h11]
    have hq1 : (t.op == 11) = true := by simp [h11]
    clear h8 h11
    have m2 := cellAt HB2.out 2
    have m3 := cellAt HB2.out 3
    have s1 := cellAt HB1.out 1
    go_wp2_with fail
    (with_reducible refine (bwith_any L _ t.nm t.ty _ (HL.out.below HE.out)).mono ?_)
    rintro e w5 ⟨⟨u, rfl, hr⟩, hb⟩
    obtain ⟨qu, rfl⟩ := hr.form
    have HX5 := Lib.hid hb
    have HR5 := Lib.hid hr
    have HC1 := Lib.hid ((hb.block _ (heap_lt HB1.out)).trans HB1.out)
    have HC2 := Lib.hid ((hb.block _ (heap_lt HB2.out)).trans HB2.out)
    have HC3 := Lib.hid ((hb.block _ (heap_lt HB3.out)).trans HB3.out)
    have HC4 := Lib.hid ((hb.block _ (heap_lt HB4.out)).trans HB4.out)
    clear hr hb m0 m2 m3 s1
    have s1 := cellAt HC1.out 1
    have f1 := frozenAt HC1.out 1
    go_upto_region 8 with fail
    clear s1 f1
    have HS1 := Lib.hid (set1_box2b HC1.out (.pointer qu))
    have HON : Hid (Only (fun j => j = w.heap.size) w5 (w5.setCell ⟨w.heap.size, 1, none⟩ (.pointer qu))) := Only.setCell (C := fun j => j = w.heap.size) (p := ⟨w.heap.size, 1, none⟩) rfl _ _
    have HRL := Lib.hid (RB.turn HC1.out (fun s => by simp) HON.out HR5.out)
    have HRV := Lib.hid (RB.turn HC1.out (fun s => by simp) HON.out (HV.out.below (HE.out.tr HX5.out)))
    have HC2 := Lib.hid ((HON.out.block _ (heap_lt HC2.out) (by omega)).trans HC2.out)
    have HC3 := Lib.hid ((HON.out.block _ (heap_lt HC3.out) (by omega)).trans HC3.out)
    have HC4 := Lib.hid ((HON.out.block _ (heap_lt HC4.out) (by omega)).trans HC4.out)
    have HX6 : Hid (Ext w _) := (HE.out.tr HX5.out).trans (HON.out.below (HE.out.tr HX5.out).size (fun k e => by omega))
    generalize World.setCell w5 _ _ = w6 at *
    have yc := HYC.out.below HX6.out
    have k0 := yc.c0
    have k1 := yc.c1
    have k2 := yc.c2
    have k3 := yc.c3
    have k4 := yc.c4
    have k5 := yc.c5
    clear yc
    have s0 := cellAt HS1.out 0
    have s1 := cellAt HS1.out 1
    have n4 := cellAt HC2.out 4
    obtain ⟨z0, z1, z2, z3, z4, z5⟩ := cells6 HC3.out
    have y0 := cellAt HC4.out 0
    have y1 := cellAt HC4.out 1
    have f0 := frozenAt HC3.out 0
    have f1 := frozenAt HC3.out 1
    have f2 := frozenAt HC3.out 2
    have f3 := frozenAt HC3.out 3
    have f4 := frozenAt HC3.out 4
    have f5 := frozenAt HC3.out 5
    have g0 := frozenAt HC4.out 0
    have g1 := frozenAt HC4.out 1
    have HST := Lib.hid (child_store HC3.out HC4.out (by omega) HX6.out (by omega) (by omega) (.int .i64 x.op) (.int .i64 x.n) (.string x.nm) (.int .i64 x.ty) (.slice Ax x.args.length cx) (.slice Bx x.cls.length dx) (.pointer qv) (.pointer qu))
    go_region_with (fail)
    all_goals
      go_wp2
      generalize World.setCell (World.setCell (World.setCell (World.setCell (World.setCell (World.setCell (World.setCell (World.setCell w6 _ _) _ _) _ _) _ _) _ _) _ _) _ _) _ _ = wz at *
      obtain ⟨h2, h3, h4, h5⟩ := HST.out
      have HRV2 := Lib.hid ((h5 _ _ HRV.out).below (Ext.rf _).drew)
      have HRL2 := Lib.hid ((h5 _ _ HRL.out).below (Ext.rf _).drew)
      have HX7 := Lib.hid h4.drew
      clear h4 h5 k0 k1 k2 k3 k4 k5 s0 s1 n4 z0 z1 z2 z3 z4 z5 y0 y1 f0 f1 f2 f3 f4 f5 g0 g1
      obtain ⟨z0, z1, z2, z3, z4, z5⟩ := cells6 h2
      have y0 := cellAt h3 0
      have y1 := cellAt h3 1
      unfold bodyPost
      rw [HK1.out, HK2.out]
      dsimp only
      rw [HEV.out, HEL.out]
      simp [results, go_sem, z0, z1, z2, z3, z4, z5, y0, y1]
      exact ⟨⟨_, _, _, _, ⟨⟨rfl, rfl⟩, rfl, rfl⟩, HTY.out.below HX7.out, HRV2.out, HRL2.out⟩, HX7.out⟩
  · have HEV : Hid (argV t.op t.nm t.ty i V = V) := by show _ = _; unfold argV; rw [if_neg h8]
    have HEL : Hid (argL t.op t.nm t.ty L = L) := by show _ = _; unfold argL; rw [if_neg h11]
    have hq1 : (t.op == 11) = false := by simpa using h11
    have hq9 : (t.op == 8) = false ∨ ((i : Int) == 1) = false := by
      by_cases h : t.op = 8
      · right
        have : i ≠ 1 := fun e => h8 ⟨h, e⟩
        simp; omega
      · left; simpa using h
    clear h8 h11
    have HRV := Lib.hid (HV.out.below HE.out)
    have HRL := Lib.hid (HL.out.below HE.out)
    have HS1 := HB1; have HC2 := HB2; have HC3 := HB3; have HC4 := HB4; have HX6 := HE
    rcases hq9 with hq9 | hq9
    · go_upto_region 8 with fail
      generalize w1 = w6 at *
      clear m0
      have yc := HYC.out.below HX6.out
      have k0 := yc.c0
      have k1 := yc.c1
      have k2 := yc.c2
      have k3 := yc.c3
      have k4 := yc.c4
      have k5 := yc.c5
      clear yc
      have s0 := cellAt HS1.out 0
      have s1 := cellAt HS1.out 1
      have n4 := cellAt HC2.out 4
      obtain ⟨z0, z1, z2, z3, z4, z5⟩ := cells6 HC3.out
      have y0 := cellAt HC4.out 0
      have y1 := cellAt HC4.out 1
      have f0 := frozenAt HC3.out 0
      have f1 := frozenAt HC3.out 1
      have f2 := frozenAt HC3.out 2
      have f3 := frozenAt HC3.out 3
      have f4 := frozenAt HC3.out 4
      have f5 := frozenAt HC3.out 5
      have g0 := frozenAt HC4.out 0
      have g1 := frozenAt HC4.out 1
      have HST := Lib.hid (child_store HC3.out HC4.out (by omega) HX6.out (by omega) (by omega) (.int .i64 x.op) (.int .i64 x.n) (.string x.nm) (.int .i64 x.ty) (.slice Ax x.args.length cx) (.slice Bx x.cls.length dx) (.pointer qv) (.pointer ql))
      go_region_with (fail)
      all_goals
        go_wp2
        generalize World.setCell (World.setCell (World.setCell (World.setCell (World.setCell (World.setCell (World.setCell (World.setCell w6 _ _) _ _) _ _) _ _) _ _) _ _) _ _) _ _ = wz at *
        obtain ⟨h2, h3, h4, h5⟩ := HST.out
        have HRV2 := Lib.hid ((h5 _ _ HRV.out).below (Ext.rf _).drew)
        have HRL2 := Lib.hid ((h5 _ _ HRL.out).below (Ext.rf _).drew)
        have HX7 := Lib.hid h4.drew
        clear h4 h5 k0 k1 k2 k3 k4 k5 s0 s1 n4 z0 z1 z2 z3 z4 z5 y0 y1 f0 f1 f2 f3 f4 f5 g0 g1
        obtain ⟨z0, z1, z2, z3, z4, z5⟩ := cells6 h2
        have y0 := cellAt h3 0
        have y1 := cellAt h3 1
        unfold bodyPost
        rw [HK1.out, HK2.out]
        dsimp only
        rw [HEV.out, HEL.out]
        simp [results, go_sem, z0, z1, z2, z3, z4, z5, y0, y1]
        exact ⟨⟨_, _, _, _, ⟨⟨rfl, rfl⟩, rfl, rfl⟩, HTY.out.below HX7.out, HRV2.out, HRL2.out⟩, HX7.out⟩
    · cases hqq : (t.op == 8)
      · go_upto_region 8 with fail
        generalize w1 = w6 at *
        clear m0
        have yc := HYC.out.below HX6.out
        have k0 := yc.c0
        have k1 := yc.c1
        have k2 := yc.c2
        have k3 := yc.c3
        have k4 := yc.c4
        have k5 := yc.c5
        clear yc
        have s0 := cellAt HS1.out 0
        have s1 := cellAt HS1.out 1
        have n4 := cellAt HC2.out 4
        obtain ⟨z0, z1, z2, z3, z4, z5⟩ := cells6 HC3.out
        have y0 := cellAt HC4.out 0
        have y1 := cellAt HC4.out 1
        have f0 := frozenAt HC3.out 0
        have f1 := frozenAt HC3.out 1
        have f2 := frozenAt HC3.out 2
        have f3 := frozenAt HC3.out 3
        have f4 := frozenAt HC3.out 4
        have f5 := frozenAt HC3.out 5
        have g0 := frozenAt HC4.out 0
        have g1 := frozenAt HC4.out 1
        have HST := Lib.hid (child_store HC3.out HC4.out (by omega) HX6.out (by omega) (by omega) (.int .i64 x.op) (.int .i64 x.n) (.string x.nm) (.int .i64 x.ty) (.slice Ax x.args.length cx) (.slice Bx x.cls.length dx) (.pointer qv) (.pointer ql))
        go_region_with (fail)
        all_goals
          go_wp2
          generalize World.setCell (World.setCell (World.setCell (World.setCell (World.setCell (World.setCell (World.setCell (World.setCell w6 _ _) _ _) _ _) _ _) _ _) _ _) _ _) _ _ = wz at *
          obtain ⟨h2, h3, h4, h5⟩ := HST.out
          have HRV2 := Lib.hid ((h5 _ _ HRV.out).below (Ext.rf _).drew)
          have HRL2 := Lib.hid ((h5 _ _ HRL.out).below (Ext.rf _).drew)
          have HX7 := Lib.hid h4.drew
          clear h4 h5 k0 k1 k2 k3 k4 k5 s0 s1 n4 z0 z1 z2 z3 z4 z5 y0 y1 f0 f1 f2 f3 f4 f5 g0 g1
          obtain ⟨z0, z1, z2, z3, z4, z5⟩ := cells6 h2
          have y0 := cellAt h3 0
          have y1 := cellAt h3 1
          unfold bodyPost
          rw [HK1.out, HK2.out]
          dsimp only
          rw [HEV.out, HEL.out]
          simp [results, go_sem, z0, z1, z2, z3, z4, z5, y0, y1]
          exact ⟨⟨_, _, _, _, ⟨⟨rfl, rfl⟩, rfl, rfl⟩, HTY.out.below HX7.out, HRV2.out, HRL2.out⟩, HX7.out⟩
      · go_upto_region 8 with fail
        generalize w1 = w6 at *
        clear m0
        have yc := HYC.out.below HX6.out
        have k0 := yc.c0
        have k1 := yc.c1
        have k2 := yc.c2
        have k3 := yc.c3
        have k4 := yc.c4
        have k5 := yc.c5
        clear yc
        have s0 := cellAt HS1.out 0
        have s1 := cellAt HS1.out 1
        have n4 := cellAt HC2.out 4
        obtain ⟨z0, z1, z2, z3, z4, z5⟩ := cells6 HC3.out
        have y0 := cellAt HC4.out 0
        have y1 := cellAt HC4.out 1
        have f0 := frozenAt HC3.out 0
        have f1 := frozenAt HC3.out 1
        have f2 := frozenAt HC3.out 2
        have f3 := frozenAt HC3.out 3
        have f4 := frozenAt HC3.out 4
        have f5 := frozenAt HC3.out 5
        have g0 := frozenAt HC4.out 0
        have g1 := frozenAt HC4.out 1
        have HST := Lib.hid (child_store HC3.out HC4.out (by omega) HX6.out (by omega) (by omega) (.int .i64 x.op) (.int .i64 x.n) (.string x.nm) (.int .i64 x.ty) (.slice Ax x.args.length cx) (.slice Bx x.cls.length dx) (.pointer qv) (.pointer ql))
        go_region_with (fail)
        all_goals
          go_wp2
          generalize World.setCell (World.setCell (World.setCell (World.setCell (World.setCell (World.setCell (World.setCell (World.setCell w6 _ _) _ _) _ _) _ _) _ _) _ _) _ _) _ _ = wz at *
          obtain ⟨h2, h3, h4, h5⟩ := HST.out
          have HRV2 := Lib.hid ((h5 _ _ HRV.out).below (Ext.rf _).drew)
          have HRL2 := Lib.hid ((h5 _ _ HRL.out).below (Ext.rf _).drew)
          have HX7 := Lib.hid h4.drew
          clear h4 h5 k0 k1 k2 k3 k4 k5 s0 s1 n4 z0 z1 z2 z3 z4 z5 y0 y1 f0 f1 f2 f3 f4 f5 g0 g1
          obtain ⟨z0, z1, z2, z3, z4, z5⟩ := cells6 h2
          have y0 := cellAt h3 0
          have y1 := cellAt h3 1
          unfold bodyPost
          rw [HK1.out, HK2.out]
          dsimp only
          rw [HEV.out, HEL.out]
          simp [results, go_sem, z0, z1, z2, z3, z4, z5, y0, y1]
          exact ⟨⟨_, _, _, _, ⟨⟨rfl, rfl⟩, rfl, rfl⟩, HTY.out.below HX7.out, HRV2.out, HRL2.out⟩, HX7.out⟩
end Go.Proofs.YtogmjgccopmplaaGreat
