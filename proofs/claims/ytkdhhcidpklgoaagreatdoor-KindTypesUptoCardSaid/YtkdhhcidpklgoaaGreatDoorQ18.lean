/- kind: args. -/
import Derived.Test.YtkdhhcidpklgoaaGreatDoorQ17
namespace Go.Proofs.YtkdhhcidpklgoaaGreatDoor
open Go.RowKit Go.Shelf Go.Maps
attribute [local go_sem] Oper.semAt_some

theorem RInts.one {w : World} {b : Nat} {x : Int} {T : Nat} (h : w.heap[b]? = some (.cells #[.int .i64 x] T (0, 0))) (h1 : ok64 x) : RInts w (.slice (some ⟨b, 0, none⟩) 1 1) [x] :=
  ⟨_, 1, rfl, Nat.le_refl _, by decide, fun i a hi => by
    match i, hi with
    | 0, hi => obtain rfl := Option.some.inj hi; exact ⟨_, _, rfl, heap_lt h, cellAt h 0, h1⟩⟩
theorem bndA_take {l : List Nd} {j : Nat} (h : j < l.length) : bndA (l.take (j + 1)) = bndA (l.take j) + bndN l[j] ∧ bndA (l.take j) + bndN l[j] ≤ bndA l := by
  have h1 := bndA_append (l.drop (j + 1)) (l.take (j + 1))
  have h2 : l.take (j + 1) = l.take j ++ [l[j]] := List.take_succ_eq_append_getElem h
  rw [List.take_append_drop, h2, bndA_append] at h1
  rw [h2, bndA_append]
  simp only [bndA] at h1 ⊢
  omega
theorem bndA_sub {l : List Nd} (j : Nat) : bndA (l.take j) ≤ bndA l := by
  have h1 := bndA_append (l.drop j) (l.take j)
  rw [List.take_append_drop] at h1
  omega
set_option maxHeartbeats 16000000 in
set_option maxRecDepth 100000 in
theorem typArgs (vd vf : Value) (C : Cg) (wA : World) (base mx mc : Nat) (k : Nat) (t : Nd) (va vb : Value) (hC : RCg wA vd vf C) (hS : ShC C) (htab : Tabs wA) (ht : RNd wA (k + 1) t va vb) (hb : BN t)
    (hA : ∀ (i : Nat) x, t.args[i]? = some x → ∀ xa xb, RNd wA k x xa xb → TypS C vd vf wA base mx mc x xa xb) (hm1 : wA.heap.size ≤ mx) (hm2 : wA.heap.size ≤ mc) (hba : wA.heap.size ≤ base) : TypAS C vd vf wA base mx mc t va vb := by
  intro w n g E S hx hbs hsc hin hE hso hn
  have hml := muV_len t.op t.n
  have HWA := Lib.hid (fun (W : World) (hW : Ext wA W) (i : Nat) (hi : i < t.args.length) => wanted_any vd vf C mx mc t va vb i W (hC.below hW) (htab.ext hW) (sort_parts hso).2.1 (by have := (sort_parts hso).2.2; omega)
    (fun ha => by
      have h1 := (sort_parts hso).1.na
      have h2 : wantS C t.op t.n t.ty = (hdArgs C t.op t.n t.ty).map fun a => coI a.co := by unfold wantS; rw [if_pos ha]
      rw [h2, List.length_map] at h1
      omega) (fun _ => app_of (sort_parts hso).1.rf) (by have := hb.na; omega) ⟨_, ht.below hW⟩)
  have hna := hb.na
  obtain ⟨Ad, cd, rfl, -, -⟩ := hC.d.form
  obtain ⟨Af, cf, rfl, -, -⟩ := hC.f.form
  obtain ⟨⟨o1, o2, o3⟩, ⟨A, c, rfl, -, hma⟩, ⟨B, d, rfl, -, hmb⟩⟩ := ht.form
  have HBA := Lib.hid (fun w' => boundInArgs_new t.op t.n t.ty (.slice A t.args.length c) (.slice B t.brs.length d) o2 w')
  have HOT := Lib.hid o3
  have hb1 := Ext.lt (Ext.al (w.alloc (.cells #[.slice Ad C.decls.length cd, .slice Af C.funs.length cf, .map (some mx), .map (some mc)] 64)) (.cells #[.int .i64 t.op, .int .i64 t.n, .int .i64 t.ty, .slice A t.args.length c, .slice B t.brs.length d] 36)) (heapNew w (.cells #[.slice Ad C.decls.length cd, .slice Af C.funs.length cf, .map (some mx), .map (some mc)] 64))
  have hb2 := heapNew2 w (.cells #[.slice Ad C.decls.length cd, .slice Af C.funs.length cf, .map (some mx), .map (some mc)] 64) (.cells #[.int .i64 t.op, .int .i64 t.n, .int .i64 t.ty, .slice A t.args.length c, .slice B t.brs.length d] 36)
  have hx2 := Ext.al2 w (.cells #[.slice Ad C.decls.length cd, .slice Af C.funs.length cf, .map (some mx), .map (some mc)] 64) (.cells #[.int .i64 t.op, .int .i64 t.n, .int .i64 t.ty, .slice A t.args.length c, .slice B t.brs.length d] 36)
  have HB1 := Lib.hid hb1; have HB2 := Lib.hid hb2; have HX2 := Lib.hid hx2
  have HX := Lib.hid hx; have HSC := Lib.hid hsc; have HIN := Lib.hid hin; have HE := Lib.hid hE; have HSO := Lib.hid hso; have HT := Lib.hid ht; have HA := Lib.hid hA
  have HZS := Lib.hid (muV_sort t.op t.n)
  have hlt : (muV t.op t.n).length ≤ [t.ty].length := hml
  have HLT := Lib.hid hlt
  have HARG := Lib.hid (fun (i : Nat) (x : Nd) (hi : t.args[i]? = some x) => sort_arg hso hi)
  clear hb1 hb2 hx2 hC hS htab ht hb hx hsc hin hE hso hA hlt o1 o2 o3
  go_enter_defers Tryz.func68, Tryz.ntmps68
  go_wp2
  generalize (w.alloc _).alloc _ = w2 at *
  have hbw2 : base ≤ w2.heap.size := Nat.le_trans hbs HX2.out.size
  have HS2 : Hid (SCX w2 base mx mc n g E) := HSC.out.ext HX2.out
  have HX22 : Hid (Ext wA w2) := HX.out.tr HX2.out
  obtain ⟨L, hL⟩ : ∃ L, muV t.op t.n = L := ⟨_, rfl⟩
  rw [hL] at HZS HLT hml
  have HBI2 : Hid (∀ W, Ext w2 W → Calls Tryz.prog 95 #[nV t (.slice A t.args.length c) (.slice B t.brs.length d)] W fun e w' => (∃ u, e = .returned u ∧ RVrs w' u L ∧ newAt w2.heap.size u) ∧ Ext w2 w' ∧ Ext W w') := fun W hW => by
    rw [← hL]
    refine (HBA.out W).mono ?_
    rintro e w' ⟨⟨u, rfl, h1, h2⟩, h3⟩
    exact ⟨⟨u, rfl, h1, fun A n c b o e1 e2 => Nat.le_trans hW.size (h2 A n c b o e1 e2)⟩, hW.tr h3, h3⟩
  have HBD : Hid (∀ W u v, Ext w2 W → RVrs W u L → newAt w2.heap.size u → RInts W v [t.ty] → newAt w2.heap.size v → Calls Tryz.prog 36 #[.agg #[.map (some mx), .map (some mc)], u, v] W fun e w' => ∃ gl gs A c g', e = .returned (resV gl gs) ∧ Bnd w2 w' base mx mc n gl gs g g' (pushE E L [t.ty]) L A c) := fun W u v hW h1 h2 h3 h4 =>
    bind_bnd hW HS2.out hbw2 h1 h2 h3 h4 HLT.out (by omega) HE.out HZS.out (by omega)
  have HCE : Hid (∀ W : World, W.heap[w.heap.size]? = some (.cells #[.slice Ad C.decls.length cd, .slice Af C.funs.length cf, .map (some mx), .map (some mc)] 64 (0, 0)) → W.heap[w.heap.size + 1]? = some (.cells #[.int .i64 t.op, .int .i64 t.n, .int .i64 t.ty, .slice A t.args.length c, .slice B t.brs.length d] 36 (0, 0)) → W.cell? ⟨w.heap.size, 2, none⟩ = some (.map (some mx)) ∧ W.cell? ⟨w.heap.size, 3, none⟩ = some (.map (some mc)) ∧ W.cell? ⟨w.heap.size + 1, 0, none⟩ = some (.int .i64 t.op) ∧ W.cell? ⟨w.heap.size + 1, 1, none⟩ = some (.int .i64 t.n) ∧ W.cell? ⟨w.heap.size + 1, 2, none⟩ = some (.int .i64 t.ty) ∧ W.cell? ⟨w.heap.size + 1, 3, none⟩ = some (.slice A t.args.length c) ∧ W.cell? ⟨w.heap.size + 1, 4, none⟩ = some (.slice B t.brs.length d)) := fun W h1 h2 =>
    ⟨cellAt h1 2, cellAt h1 3, cellAt h2 0, cellAt h2 1, cellAt h2 2, cellAt h2 3, cellAt h2 4⟩
  have HCX : Hid (∀ W : World, Ext w2 W → W.cell? ⟨w.heap.size, 2, none⟩ = some (.map (some mx)) ∧ W.cell? ⟨w.heap.size, 3, none⟩ = some (.map (some mc)) ∧ W.cell? ⟨w.heap.size + 1, 0, none⟩ = some (.int .i64 t.op) ∧ W.cell? ⟨w.heap.size + 1, 1, none⟩ = some (.int .i64 t.n) ∧ W.cell? ⟨w.heap.size + 1, 2, none⟩ = some (.int .i64 t.ty) ∧ W.cell? ⟨w.heap.size + 1, 3, none⟩ = some (.slice A t.args.length c) ∧ W.cell? ⟨w.heap.size + 1, 4, none⟩ = some (.slice B t.brs.length d)) := fun W h => HCE.out W (h.lt HB1.out) (h.lt HB2.out)
  obtain ⟨p2, p3, b0, b1, b2, b3, b4⟩ := HCX.out w2 (Ext.rf _)
  have HNW : Hid ((w2.alloc (.cells #[.int .i64 t.ty] 3)).drew.heap[w2.heap.size]? = some (.cells #[.int .i64 t.ty] 3 (0, 0))) := heapNew w2 (.cells #[.int .i64 t.ty] 3)
  go_region_held3 (fun w' => w'.cell? ⟨w.heap.size, 2, none⟩ = some (.map (some mx)) ∧ w'.cell? ⟨w.heap.size, 3, none⟩ = some (.map (some mc)) ∧ w'.cell? ⟨w.heap.size + 1, 0, none⟩ = some (.int .i64 t.op) ∧ w'.cell? ⟨w.heap.size + 1, 1, none⟩ = some (.int .i64 t.n) ∧ w'.cell? ⟨w.heap.size + 1, 2, none⟩ = some (.int .i64 t.ty) ∧ w'.cell? ⟨w.heap.size + 1, 3, none⟩ = some (.slice A t.args.length c) ∧ w'.cell? ⟨w.heap.size + 1, 4, none⟩ = some (.slice B t.brs.length d))
    (first | exact HCX.out _ (Ext.rf _).drew | exact HCX.out _ HXB.out | exact HC5.out | exact HCX.out _ (Ext.tr (b := w2.drew) (Ext.rf w2).drew (Ext.al _ _)) | exact HCX.out _ (HXB.out.tr (Ext.al _ _)) | exact HCX.out _ (Ext.al _ _) | fail "KEEP")
    (first
      | (go_at_call 95; (with_reducible refine (HBI2.out _ (by first | exact (Ext.rf _).drew | exact Ext.rf _ | exact Ext.tr (b := w2.drew) (Ext.rf w2).drew (Ext.al _ _) | exact Ext.al _ _ | fail "BI")).mono ?_); rintro e w3 ⟨⟨u, rfl, hu, hnu⟩, hxb, hxb'⟩; have HU := Lib.hid hu; have HNU := Lib.hid hnu; have HXB := Lib.hid hxb; have HXB' := Lib.hid hxb'; have hzb := hxb.size; clear hu hnu hxb hxb')
      | (go_at_call 36; first | (with_reducible refine (HBD.out _ _ _ (HXB.out.tr (Ext.al _ _)) (HU.out.below (Ext.al _ _)) HNU.out (RInts.one (heapNew _ _) HOT.out) (newAt.of hzb)).mono ?_) | (with_reducible refine (HBD.out _ _ _ HXB.out HU.out HNU.out ((RInts.one HNW.out HOT.out).below HXB'.out) (newAt.of (Nat.le_refl _))).mono ?_) | (fail "BD")
         rintro e w5 ⟨gl, gs, A5, c5, g5, rfl, hbn⟩
         have HBN := Lib.hid hbn
         have hq1 := hbn.tr.box HS2.out HB1.out tck_ne
         have hq2 := hbn.tr.box HS2.out HB2.out tnd_ne
         have HC5 := Lib.hid (HCE.out w5 hq1 hq2)
         clear hbn hq1 hq2))
  all_goals
    have HX5 : Hid (Ext wA w5) := HBN.out.tr.keeps HS2.out HX22.out hm1 hm2 hba
    have hz5 := HBN.out.tr.only.size
    obtain ⟨-, -, -, -, -, k3, -⟩ := HC5.out
    have HPL := Lib.hid (push_len HE.out HLT.out)
    have HPI := Lib.hid (HIN.out.push HLT.out)
    have HPC := Lib.hid (push_cnt (E := E) HLT.out)
    have HPP := Lib.hid (pop_push (E := E) HLT.out)
    have HL := Lib.hid hL
    rw [hL] at HARG
    obtain ⟨E', hE'⟩ : ∃ E', pushE E L [t.ty] = E' := ⟨_, rfl⟩
    have HEE := Lib.hid hE'
    rw [hE'] at HBN HPL HPI HPC HPP
    clear hL hE'
    have HEND : Hid (∀ W m gW, SCX W base mx mc m gW E' → Tr mx mc g5 gW w5 W → m + L.length ≤ 1000000000 → CallsD Tryz.prog 67 #[.pointer (some ⟨gl, 0, none⟩), .pointer (some ⟨gs, 0, none⟩)] .returning W fun e u' w' => u' = .returning ∧ e = .returned (.tuple #[]) ∧ ∃ g3, SCX w' base mx mc (m + L.length) g3 E ∧ Tr mx mc g g3 w w') := fun W m gW h1 h2 h3 => by
      refine (HBN.out.defer h1 h2 h3 (fun x => by have := HPL.out x; omega) HPC.out HZS.out (by omega)).mono ?_
      rintro e u' w7 ⟨rfl, rfl, g7, hs7, ht7⟩
      rw [HPP.out] at hs7
      exact ⟨rfl, rfl, g7, hs7, Tr.ext HX2.out ((HBN.out.tr.tr h2).tr ht7)⟩
    go_wp2_with fail
    clear HC5 HBI2 HBD HCE HCX HU HNU HXB HXB' HNW p2 p3 b0 b1 b2 b3 b4 k3 hzb
    go_loopw [20] (fun i wr => ∃ (j : Nat) (gj : Gv), j ≤ t.args.length ∧ i = .int .i64 j ∧ SCX wr base mx mc (n + L.length + 2 * bndA (t.args.take j)) gj E' ∧ Tr mx mc g5 gj w5 wr ∧ typA C E' t.op t.n t.ty 0 t.args = typA C E' t.op t.n t.ty j (t.args.drop j)) (fun i _ => t.args.length - (intOf i).toNat)
    case atStart => exact ⟨0, g5, Nat.zero_le _, rfl, by simpa [bndA] using HBN.out.sc, Tr.rf _ _ _ _, rfl⟩
    case round =>
      obtain ⟨j, gj, hj, rfl, hs, htr, hty⟩ := hrel
      have HS := Lib.hid hs; have HTR := Lib.hid htr; have HTY := Lib.hid hty
      have HXR : Hid (Ext wA wr) := htr.keeps HBN.out.sc HX5.out hm1 hm2 hba
      have HTR2 : Hid (Tr mx mc g gj w2 wr) := HBN.out.tr.tr htr
      have hzr := htr.only.size
      have hbs := bndA_sub (l := t.args) j
      clear hs htr hty
      by_cases hlt : j < t.args.length
      · obtain ⟨b, o, xa, xb, rfl, hbl, yc, yt⟩ := HT.out.arg hlt
        obtain ⟨c0, c1, c2, c3, c4⟩ := yc.below HXR.out
        have HXS := Lib.hid (HA.out j _ (List.getElem?_eq_getElem hlt) xa xb yt)
        have hsx := HARG.out j _ (List.getElem?_eq_getElem hlt)
        have HST := Lib.hid (typA_step (C := C) (E := E') (op := t.op) (n := t.n) (ty := t.ty) hlt)
        have HBT := Lib.hid (bndA_take hlt)
        obtain ⟨_, ⟨Ax, cx, rfl, -, -⟩, ⟨Bx, dx, rfl, -, -⟩⟩ := yt.form
        clear yc yt
        generalize t.args[j] = x at *
        have hbt := HBT.out
        have HEX := Lib.hid (Ext.al wr (.cells #[.int .i64 x.op, .int .i64 x.n, .int .i64 x.ty, .slice Ax x.args.length cx, .slice Bx x.brs.length dx] 36))
        have HNX := Lib.hid (heapNew wr (.cells #[.int .i64 x.op, .int .i64 x.n, .int .i64 x.ty, .slice Ax x.args.length cx, .slice Bx x.brs.length dx] 36))
        have hz1 : (wr.alloc (.cells #[.int .i64 x.op, .int .i64 x.n, .int .i64 x.ty, .slice Ax x.args.length cx, .slice Bx x.brs.length dx] 36)).heap.size = wr.heap.size + 1 := by simp
        have htp := HXS.out (wr.alloc (.cells #[.int .i64 x.op, .int .i64 x.n, .int .i64 x.ty, .slice Ax x.args.length cx, .slice Bx x.brs.length dx] 36)) (n + L.length + 2 * bndA (t.args.take j)) gj E' (addS S L) (HXR.out.tr HEX.out) (by omega) (HS.out.ext HEX.out) HPI.out (fun y => by have := HPL.out y; omega) hsx (by omega)
        obtain ⟨WT, hWT⟩ : ∃ WT, wantT C t.op t.n t.ty j = WT := ⟨_, rfl⟩
        have HW := Lib.hid (fun (W : World) (hW : Ext wA W) => HWA.out W hW j hlt)
        rw [hWT] at HST HW
        have HBX1 := Lib.hid (HTR2.out.box HS2.out HB1.out tck_ne)
        have HBX2 := Lib.hid (HTR2.out.box HS2.out HB2.out tnd_ne)
        have HB11 := Lib.hid (HEX.out.lt HBX1.out)
        have HB12 := Lib.hid (HEX.out.lt HBX2.out)
        have p0 := cellAt HB11.out 0
        have p1 := cellAt HB11.out 1
        have p2 := cellAt HB11.out 2
        have p3 := cellAt HB11.out 3
        have n0 := cellAt HNX.out 0
        have n1 := cellAt HNX.out 1
        have n2 := cellAt HNX.out 2
        have n3 := cellAt HNX.out 3
        have n4 := cellAt HNX.out 4
        have hjl : (j : Int) < t.args.length := by omega
        cases ho : typN C E' x with
        | none =>
          rw [ho] at htp HST
          have HTP : Hid (Calls Tryz.prog 37 #[ckV (.slice Ad C.decls.length cd) (.slice Af C.funs.length cf) mx mc, nV x (.slice Ax x.args.length cx) (.slice Bx x.brs.length dx)] (wr.alloc (.cells #[.int .i64 x.op, .int .i64 x.n, .int .i64 x.ty, .slice Ax x.args.length cx, .slice Bx x.brs.length dx] 36)) fun e w' => e = .returned (.tuple #[.int .i64 0, .bool false]) ∧ ∃ g', SCX w' base mx mc (n + L.length + 2 * bndA (t.args.take j) + 2 * bndN x) g' E' ∧ Tr mx mc gj g' (wr.alloc (.cells #[.int .i64 x.op, .int .i64 x.n, .int .i64 x.ty, .slice Ax x.args.length cx, .slice Bx x.brs.length dx] 36)) w') := htp
          have HRF : Hid (typA C E' t.op t.n t.ty 0 t.args = false) := by show _ = _; rw [HTY.out, HST.out]; simp
          clear htp hsx ho hWT
          go_wp2_with (go_at_call 37; (with_reducible refine (HTP.out).mono ?_); rintro e w6 ⟨rfl, g6, hs6, ht6⟩)
          refine leaves_cons (by simp) (enters_res _ _) ?_
          refine (HEND.out w6 _ g6 hs6 (HTR.out.tr (Tr.ext HEX.out ht6)) (by omega)).mono ?_
          rintro e u' w7 ⟨rfl, rfl, g7, hs7, ht7⟩
          exact ⟨.bool false, by simp [results, Tryz.results68, go_sem], by rw [HL.out, HEE.out, HRF.out], g7, hs7.mono (by omega), ht7⟩
        | some T =>
          rw [ho] at htp HST
          have HTP : Hid (Calls Tryz.prog 37 #[ckV (.slice Ad C.decls.length cd) (.slice Af C.funs.length cf) mx mc, nV x (.slice Ax x.args.length cx) (.slice Bx x.brs.length dx)] (wr.alloc (.cells #[.int .i64 x.op, .int .i64 x.n, .int .i64 x.ty, .slice Ax x.args.length cx, .slice Bx x.brs.length dx] 36)) fun e w' => e = .returned (.tuple #[.int .i64 T, .bool true]) ∧ ∃ g', SCX w' base mx mc (n + L.length + 2 * bndA (t.args.take j) + 2 * bndN x) g' E' ∧ Tr mx mc gj g' (wr.alloc (.cells #[.int .i64 x.op, .int .i64 x.n, .int .i64 x.ty, .slice Ax x.args.length cx, .slice Bx x.brs.length dx] 36)) w') := htp
          have HW2 : Hid (∀ W, Ext wA W → Calls Tryz.prog 96 #[ckV (.slice Ad C.decls.length cd) (.slice Af C.funs.length cf) mx mc, nV t (.slice (some ⟨b, o, none⟩) t.args.length c) (.slice B t.brs.length d), .int .i64 j] W fun e w' => e = .returned (.int .i64 WT) ∧ Ext W w') := HW.out
          clear htp hsx ho hWT
          by_cases hTW : T = WT
          · subst hTW
            have HRT : Hid (typA C E' t.op t.n t.ty 0 t.args = typA C E' t.op t.n t.ty (j + 1) (t.args.drop (j + 1))) := by show _ = _; rw [HTY.out, HST.out]; simp
            go_wp2_with (first
              | (go_at_call 37; (with_reducible refine (HTP.out).mono ?_); rintro e w6 ⟨rfl, g6, hs6, ht6⟩; have HS6 := Lib.hid hs6; have HT6 : Hid (Tr mx mc g5 g6 w5 w6) := HTR.out.tr (Tr.ext HEX.out ht6); have HB61 := Lib.hid (ht6.box (HS.out.ext HEX.out) HB11.out tck_ne); have HB62 := Lib.hid (ht6.box (HS.out.ext HEX.out) HB12.out tnd_ne); have HX6 : Hid (Ext wA w6) := HT6.out.keeps HBN.out.sc HX5.out hm1 hm2 hba; clear hs6 ht6 p0 p1 p2 p3 n0 n1 n2 n3 n4; have p0 := cellAt HB61.out 0; have p1 := cellAt HB61.out 1; have p2 := cellAt HB61.out 2; have p3 := cellAt HB61.out 3; have n0 := cellAt HB62.out 0; have n1 := cellAt HB62.out 1; have n2 := cellAt HB62.out 2; have n3 := cellAt HB62.out 3; have n4 := cellAt HB62.out 4)
              | (go_at_call 96; (with_reducible refine (HW2.out _ HX6.out).mono ?_); rintro e w7 ⟨rfl, hx7⟩))
            exact ⟨⟨j + 1, g6, by omega, by go_num, by rw [HBT.out.1]; exact (HS6.out.ext hx7).mono (by omega), HT6.out.andExt hx7, HRT.out⟩, by simp [intOf]; omega⟩
          · have HRF : Hid (typA C E' t.op t.n t.ty 0 t.args = false) := by
              show _ = _; rw [HTY.out, HST.out]
              rw [decide_eq_false (fun e => hTW (Option.some.inj e)), Bool.false_and]
            go_wp2_with (first
              | (go_at_call 37; (with_reducible refine (HTP.out).mono ?_); rintro e w6 ⟨rfl, g6, hs6, ht6⟩; have HS6 := Lib.hid hs6; have HT6 : Hid (Tr mx mc g5 g6 w5 w6) := HTR.out.tr (Tr.ext HEX.out ht6); have HB61 := Lib.hid (ht6.box (HS.out.ext HEX.out) HB11.out tck_ne); have HB62 := Lib.hid (ht6.box (HS.out.ext HEX.out) HB12.out tnd_ne); have HX6 : Hid (Ext wA w6) := HT6.out.keeps HBN.out.sc HX5.out hm1 hm2 hba; clear hs6 ht6 p0 p1 p2 p3 n0 n1 n2 n3 n4; have p0 := cellAt HB61.out 0; have p1 := cellAt HB61.out 1; have p2 := cellAt HB61.out 2; have p3 := cellAt HB61.out 3; have n0 := cellAt HB62.out 0; have n1 := cellAt HB62.out 1; have n2 := cellAt HB62.out 2; have n3 := cellAt HB62.out 3; have n4 := cellAt HB62.out 4)
              | (go_at_call 96; (with_reducible refine (HW2.out _ HX6.out).mono ?_); rintro e w7 ⟨rfl, hx7⟩))
            refine leaves_cons (by simp) (enters_res _ _) ?_
            refine (HEND.out w7 _ g6 (HS6.out.ext hx7) (HT6.out.andExt hx7) (by omega)).mono ?_
            rintro e u' w8 ⟨rfl, rfl, g7, hs7, ht7⟩
            exact ⟨.bool false, by simp [results, Tryz.results68, go_sem], by rw [HL.out, HEE.out, HRF.out], g7, hs7.mono (by omega), ht7⟩
      · have hjl : j = t.args.length := by omega
        have HRF : Hid (typA C E' t.op t.n t.ty 0 t.args = true) := by show _ = _; rw [HTY.out, List.drop_eq_nil_of_le (by omega)]; rfl
        have HSr : Hid (SCX wr base mx mc (n + L.length + 2 * bndA t.args) gj E') := by have := HS.out; rw [List.take_of_length_le (by omega)] at this; exact this
        go_wp2
        refine leaves_cons (by simp) (enters_res _ _) ?_
        refine (HEND.out wr _ gj HSr.out HTR.out (by omega)).mono ?_
        rintro e u' w7 ⟨rfl, rfl, g7, hs7, ht7⟩
        exact ⟨.bool true, by simp [results, Tryz.results68, go_sem], by rw [HL.out, HEE.out, HRF.out], g7, hs7.mono (by omega), ht7⟩
end Go.Proofs.YtkdhhcidpklgoaaGreatDoor

/- kind: branches. -/
namespace Go.Proofs.YtkdhhcidpklgoaaGreatDoor
open Go.RowKit Go.Shelf Go.Maps
attribute [local go_sem] Oper.semAt_some

theorem bndB_take {l : List Br} {j : Nat} (h : j < l.length) : bndB (l.take (j + 1)) = bndB (l.take j) + (l[j].1.length + bndN l[j].2.2) ∧ bndB (l.take j) + (l[j].1.length + bndN l[j].2.2) ≤ bndB l := by
  have h1 := bndB_append (l.drop (j + 1)) (l.take (j + 1))
  have h2 : l.take (j + 1) = l.take j ++ [l[j]] := List.take_succ_eq_append_getElem h
  rw [List.take_append_drop, h2, bndB_append, bndB_one] at h1
  rw [h2, bndB_append, bndB_one]
  omega
theorem uses_decl {C : Cg} {q : Bool} {op n ty : Int} (h : refersB C q op n ty = true) (hu : usesB op = true) : 1 ≤ ty ∧ ty ≤ C.decls.length := by
  unfold usesB at hu
  rcases (of_decide_eq_true hu) with rfl | rfl
  · rw [ref_4] at h; exact ⟨(decls_bnd h).1, (decls_bnd h).2⟩
  · rw [ref_8] at h; exact ⟨(decls_bnd h).1, (decls_bnd h).2⟩
/-- Where the xtor of a branch lies. -/
theorem xtor_cells {w : World} {Ad : Option Addr} {cd : Nat} {C : Cg} {ty : Int} {i : Nat} {x : Xtor} (h : RDecls w (.slice Ad C.decls.length cd) C.decls) (h1 : 1 ≤ ty) (h2 : ty ≤ C.decls.length) (hi : (xtorsC C ty)[i]? = some x) :
    ∃ (u bd od : Nat) (bx ox cx : Nat) (va : Value), ty - 1 = (u : Int) ∧ u < C.decls.length ∧ Ad = some ⟨bd, od, none⟩ ∧ w.cell? ⟨bd, od + u * 3 + 2, none⟩ = some (.slice (some ⟨bx, ox, none⟩) (xtorsC C ty).length cx) ∧ (xtorsC C ty).length ≤ cx ∧ cx ≤ maxLen ∧ w.cell? ⟨bx, ox + i * 2 + 1, none⟩ = some va ∧ RArgs w va x.args := by
  obtain ⟨u, hu⟩ : ∃ u : Nat, ty = u + 1 := ⟨(ty - 1).toNat, by omega⟩
  subst hu
  have hul : u < C.decls.length := by omega
  have hxt : xtorsC C ((u : Int) + 1) = (C.decls[u]).xtors := by unfold xtorsC; rw [declC_in hul]
  obtain ⟨b, o, vx, rfl, hbl, c0, c1, c2, c3, c4⟩ := h.at_ hul
  rw [hxt] at hi ⊢
  obtain ⟨Ax, cx, rfl, hcx, hmx2⟩ := c3.form
  obtain ⟨hil, he⟩ := List.getElem?_eq_some_iff.1 hi
  obtain ⟨b2, o2, va2, rfl, hbl2, d0, d1, d2, d3⟩ := c3.at_ hil
  rw [he] at d2
  exact ⟨u, b, o, b2, o2, cx, va2, by omega, hul, rfl, c2, hcx, hmx2, d1, d2⟩
set_option maxHeartbeats 16000000 in
set_option maxRecDepth 100000 in
theorem typBrs (vd vf : Value) (C : Cg) (wA : World) (base mx mc : Nat) (k : Nat) (t : Nd) (va vb : Value) (hC : RCg wA vd vf C) (hS : ShC C) (ht : RNd wA (k + 1) t va vb) (hb : BN t)
    (hB : ∀ (i : Nat) (x : Br), t.brs[i]? = some x → ∀ vv vc xa xb, RInts wA vv x.1 → RBools wA vc x.2.1 → RNd wA k x.2.2 xa xb → TypBS C vd vf wA base mx mc x.1 x.2.1 x.2.2 vv vc xa xb) (hm1 : wA.heap.size ≤ mx) (hm2 : wA.heap.size ≤ mc) (hba : wA.heap.size ≤ base) : TypBB C vd vf wA base mx mc t va vb := by
  intro w n g E S hx hbs hsc hin hE hso hn
  have hnb := hb.nb
  obtain ⟨Ad, cd, rfl, -, hmd⟩ := hC.d.form
  obtain ⟨Af, cf, rfl, -, -⟩ := hC.f.form
  obtain ⟨-, ⟨A, c, rfl, -, hma⟩, ⟨B, d, rfl, -, hmb⟩⟩ := ht.form
  have hdl := hS.dl
  have hxl := hS.xtors t.ty
  unfold maxLen at hmb hmd
  have HXT := Lib.hid (fun (i : Nat) (b : Br) (hi : t.brs[i]? = some b) => (show ∃ x, (xtorsC C t.ty)[i]? = some x ∧ b.1.length = x.args.length ∧ sortN C (addS S (zipCo b.1 b.2.1)) b.2.2 ≠ 3 ∧ (∀ a ∈ x.args, ok64 a.ty) ∧ ∃ (u bd od : Nat) (bx ox cx : Nat) (va : Value), t.ty - 1 = (u : Int) ∧ u < C.decls.length ∧ Ad = some ⟨bd, od, none⟩ ∧ wA.cell? ⟨bd, od + u * 3 + 2, none⟩ = some (.slice (some ⟨bx, ox, none⟩) (xtorsC C t.ty).length cx) ∧ (xtorsC C t.ty).length ≤ cx ∧ cx ≤ maxLen ∧ wA.cell? ⟨bx, ox + i * 2 + 1, none⟩ = some va ∧ RArgs wA va x.args by
    obtain ⟨x, h1, h2, h3, h4⟩ := sort_br hso hi
    have h5 := uses_decl (sort_parts hso).1.rf h2
    refine ⟨x, h1, (binds_lens h3).1, by rw [h4]; decide, ?_, xtor_cells hC.d h5.1 h5.2 h1⟩
    have h6 := hS.xt (declC C t.ty) (by
      unfold declC
      obtain ⟨u, hu⟩ : ∃ u : Nat, t.ty = u + 1 := ⟨(t.ty - 1).toNat, by omega⟩
      rw [List.getD_eq_getElem?_getD, hu, show ((u : Int) + 1 - 1).toNat = u by omega, List.getElem?_eq_getElem (show u < C.decls.length by omega)]
      exact List.getElem_mem _)
    exact (h6.2 x (List.mem_of_getElem? h1)).2))
  have hb1 := Ext.lt (Ext.al (w.alloc (.cells #[.slice Ad C.decls.length cd, .slice Af C.funs.length cf, .map (some mx), .map (some mc)] 64)) (.cells #[.int .i64 t.op, .int .i64 t.n, .int .i64 t.ty, .slice A t.args.length c, .slice B t.brs.length d] 36)) (heapNew w (.cells #[.slice Ad C.decls.length cd, .slice Af C.funs.length cf, .map (some mx), .map (some mc)] 64))
  have hb2 := heapNew2 w (.cells #[.slice Ad C.decls.length cd, .slice Af C.funs.length cf, .map (some mx), .map (some mc)] 64) (.cells #[.int .i64 t.op, .int .i64 t.n, .int .i64 t.ty, .slice A t.args.length c, .slice B t.brs.length d] 36)
  have hx2 := Ext.al2 w (.cells #[.slice Ad C.decls.length cd, .slice Af C.funs.length cf, .map (some mx), .map (some mc)] 64) (.cells #[.int .i64 t.op, .int .i64 t.n, .int .i64 t.ty, .slice A t.args.length c, .slice B t.brs.length d] 36)
  have HB1 := Lib.hid hb1; have HB2 := Lib.hid hb2; have HX2 := Lib.hid hx2
  have HX := Lib.hid hx; have HSC := Lib.hid hsc; have HIN := Lib.hid hin; have HE := Lib.hid hE; have HT := Lib.hid ht; have HB := Lib.hid hB; have HSH := Lib.hid hb.short
  clear hb1 hb2 hx2 hC hS ht hb hx hsc hin hE hso hB
  go_enter Tryz.func69, Tryz.ntmps69
  go_wp2_with fail
  generalize (w.alloc _).alloc _ = w2 at *
  have hbw2 : base ≤ w2.heap.size := Nat.le_trans hbs HX2.out.size
  have HS2 : Hid (SCX w2 base mx mc n g E) := HSC.out.ext HX2.out
  have HX22 : Hid (Ext wA w2) := HX.out.tr HX2.out
  have r4 := cellAt HB2.out 4
  go_wp2
  clear r4
  go_loopw [10] (fun i wr => ∃ (j : Nat) (gj : Gv), j ≤ t.brs.length ∧ i = .int .i64 j ∧ SCX wr base mx mc (n + 2 * bndB (t.brs.take j)) gj E ∧ Tr mx mc g gj w2 wr ∧ typB C E t.ty 0 t.brs = typB C E t.ty j (t.brs.drop j)) (fun i _ => t.brs.length - (intOf i).toNat)
  case atStart => exact ⟨0, g, Nat.zero_le _, rfl, by simpa [bndB] using HS2.out, Tr.rf _ _ _ _, rfl⟩
  case round =>
    obtain ⟨j, gj, hj, rfl, hs, htr, hty⟩ := hrel
    have HS := Lib.hid hs; have HTR := Lib.hid htr; have HTY := Lib.hid hty
    have HXR : Hid (Ext wA wr) := htr.keeps HS2.out HX22.out hm1 hm2 hba
    have HBR1 := Lib.hid (htr.box HS2.out HB1.out tck_ne)
    have HBR2 := Lib.hid (htr.box HS2.out HB2.out tnd_ne)
    have hzr := htr.only.size
    clear hs htr hty
    by_cases hlt : j < t.brs.length
    · obtain ⟨b, o, vv, vc, xa, xb, rfl, hbl, y0, y1, y2, y3, yc, yt⟩ := HT.out.br hlt
      have HXS := Lib.hid (HB.out j _ (List.getElem?_eq_getElem hlt) vv vc xa xb y1 y3 yt)
      obtain ⟨x, hx1, hx2, hx3, hx4, u, bd, od, bx, ox, cx, vaa, e1, hu1, rfl, d1, hc1, hc2, d2, d3⟩ := HXT.out j _ (List.getElem?_eq_getElem hlt)
      have hsl := HSH.out _ (List.getElem_mem hlt)
      have HBT := Lib.hid (bndB_take hlt)
      have HST := Lib.hid (typB_step (C := C) (E := E) (ty := t.ty) hlt)
      have y0 := HXR.out.keep y0
      have y2 := HXR.out.keep y2
      obtain ⟨c0, c1, c2, c3, c4⟩ := yc.below HXR.out
      obtain ⟨_, ⟨Ax, ca, rfl, -, -⟩, ⟨Bx, da, rfl, -, -⟩⟩ := yt.form
      obtain ⟨Av, cv, rfl, -, -⟩ := y1.form
      obtain ⟨Ac, cc, rfl, -, -⟩ := y3.form
      obtain ⟨Aa, caa, rfl, -, -⟩ := d3.form
      have hxi := (List.getElem?_eq_some_iff.1 hx1).1
      have HGX : Hid ((xtorsC C t.ty).getD j noXtor = x) := by show _ = _; rw [List.getD_eq_getElem?_getD, hx1]; rfl
      have HY1 := Lib.hid y1; have HY3 := Lib.hid y3
      clear y1 y3 yc yt hx1
      generalize t.brs[j] = br at *
      obtain ⟨vs, cs, x2⟩ := br
      dsimp only at *
      have hbt := HBT.out
      unfold maxLen at hc2
      have HEX := Lib.hid (Ext.al wr (.cells #[.slice Av vs.length cv, .slice Ac cs.length cc, .int .i64 x2.op, .int .i64 x2.n, .int .i64 x2.ty, .slice Ax x2.args.length ca, .slice Bx x2.brs.length da] 97))
      have HNX := Lib.hid (heapNew wr (.cells #[.slice Av vs.length cv, .slice Ac cs.length cc, .int .i64 x2.op, .int .i64 x2.n, .int .i64 x2.ty, .slice Ax x2.args.length ca, .slice Bx x2.brs.length da] 97))
      have HCE : Hid (∀ W : World, Ext wA W → W.heap[w.heap.size]? = some (.cells #[.slice (some ⟨bd, od, none⟩) C.decls.length cd, .slice Af C.funs.length cf, .map (some mx), .map (some mc)] 64 (0, 0)) → W.heap[w.heap.size + 1]? = some (.cells #[.int .i64 t.op, .int .i64 t.n, .int .i64 t.ty, .slice A t.args.length c, .slice (some ⟨b, o, none⟩) t.brs.length d] 36 (0, 0)) → W.heap[wr.heap.size]? = some (.cells #[.slice Av vs.length cv, .slice Ac cs.length cc, .int .i64 x2.op, .int .i64 x2.n, .int .i64 x2.ty, .slice Ax x2.args.length ca, .slice Bx x2.brs.length da] 97 (0, 0)) → W.cell? ⟨w.heap.size, 0, none⟩ = some (.slice (some ⟨bd, od, none⟩) C.decls.length cd) ∧ W.cell? ⟨w.heap.size, 1, none⟩ = some (.slice Af C.funs.length cf) ∧ W.cell? ⟨w.heap.size, 2, none⟩ = some (.map (some mx)) ∧ W.cell? ⟨w.heap.size, 3, none⟩ = some (.map (some mc)) ∧ W.cell? ⟨w.heap.size + 1, 2, none⟩ = some (.int .i64 t.ty) ∧ W.cell? ⟨wr.heap.size, 0, none⟩ = some (.slice Av vs.length cv) ∧ W.cell? ⟨wr.heap.size, 1, none⟩ = some (.slice Ac cs.length cc) ∧ W.cell? ⟨wr.heap.size, 2, none⟩ = some (.int .i64 x2.op) ∧ W.cell? ⟨wr.heap.size, 3, none⟩ = some (.int .i64 x2.n) ∧ W.cell? ⟨wr.heap.size, 4, none⟩ = some (.int .i64 x2.ty) ∧ W.cell? ⟨wr.heap.size, 5, none⟩ = some (.slice Ax x2.args.length ca) ∧ W.cell? ⟨wr.heap.size, 6, none⟩ = some (.slice Bx x2.brs.length da) ∧ W.cell? ⟨bd, od + u * 3 + 2, none⟩ = some (.slice (some ⟨bx, ox, none⟩) (xtorsC C t.ty).length cx) ∧ W.cell? ⟨bx, ox + j * 2 + 1, none⟩ = some (.slice Aa x.args.length caa)) := fun W hW h0 h1 h2 =>
        ⟨cellAt h0 0, cellAt h0 1, cellAt h0 2, cellAt h0 3, cellAt h1 2, cellAt h2 0, cellAt h2 1, cellAt h2 2, cellAt h2 3, cellAt h2 4, cellAt h2 5, cellAt h2 6, hW.keep d1, hW.keep d2⟩
      have HCALL : Hid (∀ W, Ext (wr.alloc (.cells #[.slice Av vs.length cv, .slice Ac cs.length cc, .int .i64 x2.op, .int .i64 x2.n, .int .i64 x2.ty, .slice Ax x2.args.length ca, .slice Bx x2.brs.length da] 97)) W → Calls Tryz.prog 50 #[ckV (.slice (some ⟨bd, od, none⟩) C.decls.length cd) (.slice Af C.funs.length cf) mx mc, brV (.slice Av vs.length cv) (.slice Ac cs.length cc) x2 (.slice Ax x2.args.length ca) (.slice Bx x2.brs.length da), .slice Aa x.args.length caa] W fun e w' => e = .returned (.bool (typN C (pushE E (zipCo vs cs) (x.args.map Arg.ty)) x2).isSome) ∧ (∃ g', SCX w' base mx mc (n + 2 * bndB (t.brs.take j) + 2 * (vs.length + bndN x2)) g' E ∧ Tr mx mc g g' w2 w') ∧ w'.cell? ⟨w.heap.size, 0, none⟩ = some (.slice (some ⟨bd, od, none⟩) C.decls.length cd) ∧ w'.cell? ⟨w.heap.size, 1, none⟩ = some (.slice Af C.funs.length cf) ∧ w'.cell? ⟨w.heap.size, 2, none⟩ = some (.map (some mx)) ∧ w'.cell? ⟨w.heap.size, 3, none⟩ = some (.map (some mc)) ∧ w'.cell? ⟨w.heap.size + 1, 2, none⟩ = some (.int .i64 t.ty) ∧ w'.cell? ⟨wr.heap.size, 0, none⟩ = some (.slice Av vs.length cv) ∧ w'.cell? ⟨wr.heap.size, 1, none⟩ = some (.slice Ac cs.length cc) ∧ w'.cell? ⟨wr.heap.size, 2, none⟩ = some (.int .i64 x2.op) ∧ w'.cell? ⟨wr.heap.size, 3, none⟩ = some (.int .i64 x2.n) ∧ w'.cell? ⟨wr.heap.size, 4, none⟩ = some (.int .i64 x2.ty) ∧ w'.cell? ⟨wr.heap.size, 5, none⟩ = some (.slice Ax x2.args.length ca) ∧ w'.cell? ⟨wr.heap.size, 6, none⟩ = some (.slice Bx x2.brs.length da) ∧ w'.cell? ⟨bd, od + u * 3 + 2, none⟩ = some (.slice (some ⟨bx, ox, none⟩) (xtorsC C t.ty).length cx) ∧ w'.cell? ⟨bx, ox + j * 2 + 1, none⟩ = some (.slice Aa x.args.length caa)) := fun W hW => by
        refine (HXS.out W (n + 2 * bndB (t.brs.take j)) gj E S (.slice Aa x.args.length caa) x.args (HXR.out.tr (HEX.out.tr hW)) (by have := HEX.out.size; have := hW.size; omega) (HS.out.ext (HEX.out.tr hW)) HIN.out (fun y => by have := HE.out y; omega) ((HY1.out.below HXR.out).below (HEX.out.tr hW)) ((HY3.out.below HXR.out).below (HEX.out.tr hW)) d3 hx4 hx2 hx3 (by omega)).mono ?_
        rintro e w' ⟨rfl, g', h1, h2⟩
        have h3 := HTR.out.tr (Tr.ext (HEX.out.tr hW) h2)
        exact ⟨rfl, ⟨g', h1, h3⟩, HCE.out w' (h3.keeps HS2.out HX22.out hm1 hm2 hba) (h3.box HS2.out HB1.out tck_ne) (h3.box HS2.out HB2.out tnd_ne) (h2.box (HS.out.ext (HEX.out.tr hW)) (hW.lt HNX.out) tbr_ne)⟩
      clear d1 d2 d3 hx4 hx2 hx3
      have hju : (u : Int) < C.decls.length := by omega
      have hjx : (j : Int) < (xtorsC C t.ty).length := by omega
      go_wp2
      have HCX : Hid (∀ W, Ext (wr.alloc (.cells #[.slice Av vs.length cv, .slice Ac cs.length cc, .int .i64 x2.op, .int .i64 x2.n, .int .i64 x2.ty, .slice Ax x2.args.length ca, .slice Bx x2.brs.length da] 97)) W → W.cell? ⟨w.heap.size, 0, none⟩ = some (.slice (some ⟨bd, od, none⟩) C.decls.length cd) ∧ W.cell? ⟨w.heap.size, 1, none⟩ = some (.slice Af C.funs.length cf) ∧ W.cell? ⟨w.heap.size, 2, none⟩ = some (.map (some mx)) ∧ W.cell? ⟨w.heap.size, 3, none⟩ = some (.map (some mc)) ∧ W.cell? ⟨w.heap.size + 1, 2, none⟩ = some (.int .i64 t.ty) ∧ W.cell? ⟨wr.heap.size, 0, none⟩ = some (.slice Av vs.length cv) ∧ W.cell? ⟨wr.heap.size, 1, none⟩ = some (.slice Ac cs.length cc) ∧ W.cell? ⟨wr.heap.size, 2, none⟩ = some (.int .i64 x2.op) ∧ W.cell? ⟨wr.heap.size, 3, none⟩ = some (.int .i64 x2.n) ∧ W.cell? ⟨wr.heap.size, 4, none⟩ = some (.int .i64 x2.ty) ∧ W.cell? ⟨wr.heap.size, 5, none⟩ = some (.slice Ax x2.args.length ca) ∧ W.cell? ⟨wr.heap.size, 6, none⟩ = some (.slice Bx x2.brs.length da) ∧ W.cell? ⟨bd, od + u * 3 + 2, none⟩ = some (.slice (some ⟨bx, ox, none⟩) (xtorsC C t.ty).length cx) ∧ W.cell? ⟨bx, ox + j * 2 + 1, none⟩ = some (.slice Aa x.args.length caa)) := fun W hW => HCE.out W (HXR.out.tr (HEX.out.tr hW)) ((HEX.out.tr hW).lt HBR1.out) ((HEX.out.tr hW).lt HBR2.out) (hW.lt HNX.out)
      generalize wr.alloc _ = w1 at *
      obtain ⟨k0, k1, k2, k3, k4, l0, l1, l2, l3, l4, l5, l6, m0, m1⟩ := HCX.out w1 (Ext.rf _)
      clear c0 c1 c2 c3 c4 y0 y2
      obtain ⟨r, hr⟩ : ∃ r, (typN C (pushE E (zipCo vs cs) (x.args.map Arg.ty)) x2).isSome = r := ⟨_, rfl⟩
      rw [hr] at HCALL
      have HRT : Hid (typB C E t.ty 0 t.brs = (r && typB C E t.ty (j + 1) (t.brs.drop (j + 1)))) := by show _ = _; rw [HTY.out, HST.out, HGX.out, hr]
      clear hr
      have hw1 : IntKind.wrap .i64 (t.ty - 1) = (u : Int) := by rw [e1]; exact IntWalk.i64_in _ (by omega)
      have hw2 : IntKind.wrap .i64 (u : Int) = (u : Int) := IntWalk.i64_in _ (by omega)
      have hu0 : (0 : Int) ≤ u := by omega
      have hj0 : (0 : Int) ≤ j := by omega
      go_region_held3 (fun w' => w'.cell? ⟨w.heap.size, 0, none⟩ = some (.slice (some ⟨bd, od, none⟩) C.decls.length cd) ∧ w'.cell? ⟨w.heap.size, 1, none⟩ = some (.slice Af C.funs.length cf) ∧ w'.cell? ⟨w.heap.size, 2, none⟩ = some (.map (some mx)) ∧ w'.cell? ⟨w.heap.size, 3, none⟩ = some (.map (some mc)) ∧ w'.cell? ⟨w.heap.size + 1, 2, none⟩ = some (.int .i64 t.ty) ∧ w'.cell? ⟨wr.heap.size, 0, none⟩ = some (.slice Av vs.length cv) ∧ w'.cell? ⟨wr.heap.size, 1, none⟩ = some (.slice Ac cs.length cc) ∧ w'.cell? ⟨wr.heap.size, 2, none⟩ = some (.int .i64 x2.op) ∧ w'.cell? ⟨wr.heap.size, 3, none⟩ = some (.int .i64 x2.n) ∧ w'.cell? ⟨wr.heap.size, 4, none⟩ = some (.int .i64 x2.ty) ∧ w'.cell? ⟨wr.heap.size, 5, none⟩ = some (.slice Ax x2.args.length ca) ∧ w'.cell? ⟨wr.heap.size, 6, none⟩ = some (.slice Bx x2.brs.length da) ∧ w'.cell? ⟨bd, od + u * 3 + 2, none⟩ = some (.slice (some ⟨bx, ox, none⟩) (xtorsC C t.ty).length cx) ∧ w'.cell? ⟨bx, ox + j * 2 + 1, none⟩ = some (.slice Aa x.args.length caa))
        (first | exact HCX.out _ (Ext.rf _).drew | exact HC8.out | fail "KEEP")
        (first
          | (go_at_call 50; (with_reducible refine (HCALL.out _ (by first | exact (Ext.rf _).drew | exact Ext.rf _ | fail "CALL")).mono ?_); rintro e w8 ⟨rfl, ⟨g8, hs8, ht8⟩, hc8⟩; have HS8 := Lib.hid hs8; have HT8 := Lib.hid ht8; have HC8 := Lib.hid hc8; clear hs8 ht8 hc8)
          | fail "ARM")
      all_goals
        cases r
        · go_wp2
          go_ret
          exact ⟨ret_bool (by rw [HRT.out]; rfl), g8, HS8.out.mono (by omega), Tr.ext HX2.out HT8.out⟩
        · go_wp2
          exact ⟨⟨j + 1, g8, by omega, by go_num, by rw [HBT.out.1]; exact HS8.out.mono (by omega), HT8.out, by rw [HRT.out]; rfl⟩, by simp [intOf]; omega⟩
    · have hjl : j = t.brs.length := by omega
      have HR : Hid (typB C E t.ty 0 t.brs = true) := by
        show _ = _
        rw [HTY.out, List.drop_eq_nil_of_le (by omega)]; rfl
      have HSr : Hid (SCX wr base mx mc (n + 2 * bndB t.brs) gj E) := by have := HS.out; rw [List.take_of_length_le (by omega)] at this; exact this
      go_wp2
      go_ret
      exact ⟨ret_bool HR.out.symm, gj, HSr.out, Tr.ext HX2.out HTR.out⟩
end Go.Proofs.YtkdhhcidpklgoaaGreatDoor
