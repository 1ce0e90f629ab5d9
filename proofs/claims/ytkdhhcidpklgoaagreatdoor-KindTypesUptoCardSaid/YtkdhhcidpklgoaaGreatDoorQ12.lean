/- node: Fold, at a node with children. -/
import Derived.Test.YtkdhhcidpklgoaaGreatDoorQ11
import Derived.Deep.RegionLaw
namespace Go.Proofs.YtkdhhcidpklgoaaGreatDoor
open Go.RowKit Go.Shelf
attribute [local go_sem] Oper.semAt_some

theorem own_shape {w : World} {B e k : Nat} {v : Value} {n : Nat} {xs : List Value} (h : w.ownsRow B e k v n xs) : ∃ A c, v = .slice A n c ∧ ∀ g, v.ownBlock = some g → B ≤ g ∧ g < w.heap.size := by
  rcases h.2 with ⟨rfl, rfl⟩ | ⟨g, cap, cur, rfl, hg, h3, -⟩
  · exact ⟨_, _, rfl, fun g h => by cases h⟩
  · exact ⟨_, _, rfl, fun g' h => by cases h; exact ⟨hg, heap_lt h3⟩⟩
theorem Only.grow {C : Nat → Prop} {w A B : World} {row : Option Nat} (h : Only C w A) (hg : A.grownBy B row) (hr : ∀ g, row = some g → w.heap.size ≤ g) : Only C w B :=
  ⟨hg.os.trans h.os, hg.tape.trans h.tape, hg.output.trans h.output, Nat.le_trans h.size hg.size, fun k hk hn => (hg.block k (Nat.lt_of_lt_of_le hk h.size) (fun e => by have := hr k (by first | exact e | exact e.symm); omega)).trans (h.block k hk hn)⟩
theorem grow_at {A B : World} {row : Option Nat} {k : Nat} {o : Obj} (hg : A.grownBy B row) (h : A.heap[k]? = some o) (hr : ∀ g, row = some g → g ≠ k) : B.heap[k]? = some o :=
  (hg.block k (heap_lt h) (fun e => by exact hr k (by first | exact e | exact e.symm) rfl)).trans h
theorem Tryz.iFB : (Tryz.prog.info? 211).map (fun i => (i.zero, i.size, i.bytes)) = some (some (.agg #[.slice none 0 0, .int .i64 0]), 2, 32) := by kernel_rfl
theorem two_mem {u v : Value} (h : u.oneCell' = true) (h2 : v.oneCell' = true) : ∀ x ∈ [u, v], x.oneCell' = true := by
  intro x hx
  rcases List.mem_cons.1 hx with rfl | hx
  · exact h
  · rw [List.mem_singleton] at hx; rw [hx]; exact h2
/-- Every other cell. -/
def odds (XS : List Value) (l : List Int) : Prop := ∀ (i : Nat) s, l[i]? = some s → XS[i * 2 + 1]? = some (.int .i64 s)
theorem odds_snoc {XS : List Value} {l : List Int} {u : Value} {s : Int} (hl : XS.length = l.length * 2) (h : odds XS l) : odds (XS ++ [u, .int .i64 s]) (l ++ [s]) := fun i a hi => by
  by_cases hlt : i < l.length
  · rw [List.getElem?_append_left hlt] at hi
    rw [List.getElem?_append_left (by omega)]
    exact h i a hi
  · rw [List.getElem?_append_right (by omega)] at hi
    have : i - l.length = 0 := by have := (List.getElem?_eq_some_iff.1 hi).1; simpa using this
    rw [this] at hi
    obtain rfl := Option.some.inj hi
    rw [List.getElem?_append_right (by omega), show i * 2 + 1 - XS.length = 1 by omega]
    rfl
theorem own_fbs {w : World} {B : Nat} {v : Value} {l : List Int} {e : TypeId} {XS : List Value} (ho : odds XS l) (h : w.ownsRow B e 2 v l.length XS) : RFbs w v l := by
  rcases h.2 with ⟨rfl, h0⟩ | ⟨g, cap, cur, rfl, e2, e3, e4, e5, e6, e7⟩
  · have hL : l = [] := List.eq_nil_of_length_eq_zero h0
    subst hL
    exact ⟨none, 0, rfl, Nat.le_refl _, Nat.zero_le _, fun i x hx => by simp at hx⟩
  · refine ⟨_, cap, rfl, e4, e5, fun i x hx => ?_⟩
    have hi : i < l.length := (List.getElem?_eq_some_iff.1 hx).1
    refine ⟨g, 0, rfl, (Array.getElem?_eq_some_iff.1 e3).1, ?_⟩
    rw [Nat.zero_add, World.ownsRow.cellAt h (i * 2 + 1) (by omega), ho i x hx]
theorem bndB_one (b : Br) : bndB [b] = b.1.length + bndN b.2.2 := by
  obtain ⟨v, c, t⟩ := b; simp [bndB]
theorem ok_small {x : Int} (h0 : 0 ≤ x) (h1 : x ≤ 3) : ok64 x := by
  have : x = 0 ∨ x = 1 ∨ x = 2 ∨ x = 3 := by omega
  rcases this with rfl | rfl | rfl | rfl <;> (show (Lit.int .i64 _).wf = true; decide)
theorem muV_len (op n : Int) : (muV op n).length ≤ 1 := by
  unfold muV; split
  · simp
  · split <;> simp
abbrev fldB (t : Nd) (va vb ow fa fb : Value) : Obj := .cells #[.int .i64 t.op, .int .i64 t.n, .int .i64 t.ty, va, vb, .pointer none, ow, fa, fb] 208 (0, 0)
set_option maxHeartbeats 16000000 in
set_option maxRecDepth 100000 in
theorem foldNode (vd vf : Value) (C : Cg) (wA : World) (sb k : Nat) (t : Nd) (va vb : Value) (hC : RCg wA vd vf C) (hS : ShC C) (htab : Tabs wA) (ht : RNd wA (k + 1) t va vb) (hb : BN t) (hsb : wA.heap.size ≤ sb) (hl : leafB t.op = false)
    (hA : ∀ (i : Nat) x, t.args[i]? = some x → ∀ xa xb, RNd wA k x xa xb → FoldS C vd vf wA sb x xa xb)
    (hB : ∀ (i : Nat) (x : Br), t.brs[i]? = some x → ∀ vv vc xa xb, RInts wA vv x.1 → RBools wA vc x.2.1 → RNd wA k x.2.2 xa xb → FoldBS C vd vf wA sb x.1 x.2.1 x.2.2 vv vc xa xb) : FoldS C vd vf wA sb t va vb := by
  intro w n S Sc hx hsc hS1 hS2 hn
  have HN := Lib.hid hn
  have HR : Hid (sortN C Sc t = upN C false t.op t.n t.ty t.args.length t.brs (sortA C (addS Sc (muV t.op t.n)) t.args) (sortB C Sc t.brs)) := by
    show _ = _
    rw [sortN_eq, hl]
    have : inN Sc t.op t.n = false := by
      unfold leafB at hl
      simp only [Bool.or_eq_false_iff, decide_eq_false_iff_not] at hl
      unfold inN; rw [if_neg hl.1.1, if_neg hl.1.2]
    rw [this]; rfl
  have HUP : Hid (∀ (ow fa fb : Value) (la lb : List Int) w', Ext wA w' → RInts w' fa la → RFbs w' fb lb → lb.length = t.brs.length → Calls Tryz.prog 94 #[cV vd vf, fdV t.op t.n t.ty va vb (.pointer none) ow fa fb] w' fun e w'' => e = .returned (.int .i64 (upN C false t.op t.n t.ty t.args.length t.brs la lb)) ∧ Ext w' w'') :=
    fun ow fa fb la lb w' h1 h2 h3 h4 => up_any false _ _ _ _ la lb hC hS htab ht hb h1 h2 h3 (.inr ⟨rfl, rfl⟩) (fun _ => h4)
  have HL := Lib.hid hl; have HSC := Lib.hid hsc; have HX := Lib.hid hx; have HSB := Lib.hid hsb; have HS1 := Lib.hid hS1; have HS2 := Lib.hid hS2; have HT := Lib.hid ht; have HA := Lib.hid hA; have HB := Lib.hid hB
  have HMU := Lib.hid (muV_len t.op t.n)
  have hna := hb.na
  have hnb := hb.nb
  have hbn := bndN_eq t
  obtain ⟨⟨o1, o2, o3⟩, ⟨A, c, rfl, -, hma⟩, ⟨B, d, rfl, -, hmb⟩⟩ := ht.form
  have HBA := Lib.hid (fun w' => boundInArgs_new t.op t.n t.ty (.slice A t.args.length c) (.slice B t.brs.length d) o2 w')
  have HE2 := Lib.hid (Ext.al2 w (.cells #[.int .i64 t.op, .int .i64 t.n, .int .i64 t.ty, .slice A t.args.length c, .slice B t.brs.length d] 36) (fldB t (.slice A t.args.length c) (.slice B t.brs.length d) (.slice none 0 0) (.slice none 0 0) (.slice none 0 0)))
  have HB1 := Lib.hid (Ext.lt (Ext.al (w.alloc (.cells #[.int .i64 t.op, .int .i64 t.n, .int .i64 t.ty, .slice A t.args.length c, .slice B t.brs.length d] 36)) (fldB t (.slice A t.args.length c) (.slice B t.brs.length d) (.slice none 0 0) (.slice none 0 0) (.slice none 0 0))) (heapNew w _))
  have HB2 := Lib.hid (heapNew2 w (.cells #[.int .i64 t.op, .int .i64 t.n, .int .i64 t.ty, .slice A t.args.length c, .slice B t.brs.length d] 36) (fldB t (.slice A t.args.length c) (.slice B t.brs.length d) (.slice none 0 0) (.slice none 0 0) (.slice none 0 0)))
  have hlt := hsc.lt
  have HBN := Lib.hid hb
  clear hC hS htab ht hb hx hsc hS1 hS2 hl hA hB o1 o2 o3 hn hsb
  go_enter Tryz.func93, Tryz.ntmps93
  go_wp2_with (first | (go_at_call 100; refine (isLeaf_any t.op false HL.out _).mono ?_; rintro e w3 ⟨rfl, rfl⟩) | (go_at_call 95; refine (HBA.out _).mono ?_; rintro e w3 ⟨⟨u, rfl, hu, hnew⟩, hE3⟩))
  obtain ⟨Au, cu, rfl, -, -⟩ := hu.form
  have hdA : ∀ b o, Au = some ⟨b, o, none⟩ → b ≠ w.heap.size + 1 := fun b o h => by
    have := hnew _ _ _ b o rfl h
    simp only [World.size_alloc] at this
    omega
  have HSC3 := Lib.hid (HSC.out.ext (HE2.out.tr hE3))
  have HE3 := Lib.hid (HE2.out.tr hE3)
  have HB13 := Lib.hid (hE3.lt HB1.out)
  have HB23 := Lib.hid (hE3.lt HB2.out)
  have hml := HMU.out
  have hN := HN.out
  have HEN := Lib.hid (enter_all sb n (w.heap.size + 1) Au cu (muV t.op t.n) S w3 hu HSC3.out (by omega) (by omega) HS1.out (heap_lt HB23.out) (fun _ => hdA))
  have hz3 := HE3.out.size
  have hz3' := heap_lt HB23.out
  clear hu hE3 hnew hdA
  refine (HEN.out).mono ?_
  rintro e w4 ⟨A5, c5, f5, cap5, S5, rfl, hs4, hp4, hn4, ho4, hlo⟩
  have HO34 := Lib.hid ho4
  have HO4 : Hid (Only (fun j => j = sb) w w4) := (Only.of_ext HE3.out).tr ho4
  have HLO := Lib.hid hlo; have HS4 := Lib.hid hs4; have HP4 := Lib.hid hp4
  have HN4 : Hid (∀ x, nnB (S5 x) = addS Sc (muV t.op t.n) x) := fun x => by rw [hn4 x, HS2.out x]; rfl
  have HENT := hlo.ent
  have HBB1 := Lib.hid (ho4.lt HB13.out (by omega))
  have HBB2 := Lib.hid (ho4.lt HB23.out (by omega))
  have hz4 := ho4.size
  have r3 := cellAt HBB1.out 3
  have m6 := cellAt HBB2.out 6
  have m7 := cellAt HBB2.out 7
  have q6 := frozenAt HBB2.out 6
  clear hs4 hp4 hn4 ho4 hlo
  go_wp2_with fail
  have HBB5 : Hid ((w4.setCell ⟨w.heap.size + 1, 6, none⟩ (.slice A5 (muV t.op t.n).length c5)).heap[w.heap.size + 1]? = some (fldB t (.slice A t.args.length c) (.slice B t.brs.length d) (.slice A5 (muV t.op t.n).length c5) (.slice none 0 0) (.slice none 0 0))) := blk_set HBB2.out 6 _
  have HO5 : Hid (Only (fun j => j = sb ∨ j = w.heap.size + 1) w4 (w4.setCell ⟨w.heap.size + 1, 6, none⟩ (.slice A5 (muV t.op t.n).length c5))) := Only.setCell (p := ⟨w.heap.size + 1, 6, none⟩) (.inr rfl) _ _
  have hz5 : (w4.setCell ⟨w.heap.size + 1, 6, none⟩ (.slice A5 (muV t.op t.n).length c5)).heap.size = w4.heap.size := by simp [World.setCell]
  have HS5 : Hid (SC (w4.setCell ⟨w.heap.size + 1, 6, none⟩ (.slice A5 (muV t.op t.n).length c5)) sb (n + (muV t.op t.n).length) S5) := HS4.out.block (set_other _ (by omega))
  refine (grow_any t.args.length hna _).mono ?_
  rintro e w6 ⟨v6, rfl, hown, hE6⟩
  generalize w4.setCell _ _ = w5 at *
  obtain ⟨A6, c6, rfl, hg6⟩ := own_shape hown
  have hB6 := hE6.lt HBB5.out
  have HBB6 := Lib.hid hB6
  have HO6 : Hid (Only (fun j => j = sb ∨ j = w.heap.size + 1) w4 w6) := HO5.out.tr (Only.of_ext hE6)
  have HS6 : Hid (SC w6 sb (n + (muV t.op t.n).length) S5) := HS5.out.ext hE6
  have hz6 := hE6.size
  have HOW6 : Hid ((w6.setCell ⟨w.heap.size + 1, 7, none⟩ (.slice A6 0 c6)).ownsRow w4.heap.size 78 1 (.slice A6 0 c6) 0 []) :=
    own_base (own_only hown (Only.setCell (C := fun j => j = w.heap.size + 1) (p := ⟨w.heap.size + 1, 7, none⟩) rfl _ _) (fun g h => by have := (hg6 g h).1; omega)) (by omega)
  clear m6 m7 q6 r3
  have r3 := cellAt (HO6.out.lt HBB1.out (by omega)) 3
  have m7 := cellAt hB6 7
  have q7 := frozenAt hB6 7
  clear hB6 hE6 hown hg6
  have HBB7 : Hid ((w6.setCell ⟨w.heap.size + 1, 7, none⟩ (.slice A6 0 c6)).heap[w.heap.size + 1]? = some (fldB t (.slice A t.args.length c) (.slice B t.brs.length d) (.slice A5 (muV t.op t.n).length c5) (.slice A6 0 c6) (.slice none 0 0))) := blk_set HBB6.out 7 _
  have HO7 : Hid (Only (fun j => j = sb ∨ j = w.heap.size + 1) w4 (w6.setCell ⟨w.heap.size + 1, 7, none⟩ (.slice A6 0 c6))) := HO6.out.tr (Only.setCell (p := ⟨w.heap.size + 1, 7, none⟩) (.inr rfl) _ _)
  have HS7 : Hid (SC (w6.setCell ⟨w.heap.size + 1, 7, none⟩ (.slice A6 0 c6)) sb (n + (muV t.op t.n).length) S5) := HS6.out.block (set_other _ (by omega))
  have r37 : (w6.setCell ⟨w.heap.size + 1, 7, none⟩ (.slice A6 0 c6)).cell? ⟨w.heap.size, 3, none⟩ = some (.slice A t.args.length c) := cellAt (HO7.out.lt HBB1.out (by omega)) 3
  go_wp2
  generalize w6.setCell _ _ = w7 at *
  have HXW : Hid (∀ W, Only (fun j => j = sb ∨ j = w.heap.size + 1) w4 W → Ext wA W) := fun W h => HX.out.trans (Only.below (C := fun j => j = sb ∨ j = w.heap.size + 1) ((HO4.out.mono (fun j _ h => .inl h)).tr h) HX.out.size (fun j hj => by have := HSB.out; have := HX.out.size; omega))
  have hzw4 := HO4.out.size
  clear r3 m7 q7 r37 hz5
  have HSA := Lib.hid (fun l => sortA_map C (addS Sc (muV t.op t.n)) l)
  obtain ⟨Sc4, hSc4⟩ : ∃ Sc4, addS Sc (muV t.op t.n) = Sc4 := ⟨_, rfl⟩
  rw [hSc4] at HN4 HSA HR
  obtain ⟨z, hzz⟩ : ∃ z, (muV t.op t.n).length = z := ⟨_, rfl⟩
  rw [hzz] at HS7 HLO hml HBB7
  simp only [hzz]
  clear HSC HE2 HB1 HB2 HBA HB13 HB23 HEN HSC3 HE3 HO5 HS5 HBB5 HBB6 HO6 HS6 hz6 HO34 HS4 HBB2
  go_loopw [53] (fun i wr => ∃ (j : Nat) (Aj : Option Addr) (cj : Nat), j ≤ t.args.length ∧ i = .int .i64 j ∧ Only (fun b => b = sb ∨ b = w.heap.size + 1) w4 wr ∧ SC wr sb (n + z + 2 * bndA (t.args.take j)) S5 ∧ wr.heap[w.heap.size + 1]? = some (fldB t (.slice A t.args.length c) (.slice B t.brs.length d) (.slice A5 z c5) (.slice Aj j cj) (.slice none 0 0)) ∧ wr.ownsRow w4.heap.size 78 1 (.slice Aj j cj) j ((sortA C Sc4 (t.args.take j)).map (Value.int .i64))) (fun i _ => t.args.length - (intOf i).toNat)
  case atStart => exact ⟨0, A6, c6, Nat.zero_le _, rfl, HO7.out, by simpa [bndA] using HS7.out, HBB7.out, by simpa [sortA] using HOW6.out⟩
  case round =>
    obtain ⟨j, Aj, cj, hj, rfl, ho, hs, hbk, how⟩ := hrel
    have HO := Lib.hid ho; have HS := Lib.hid hs; have HBK := Lib.hid hbk; have HOW := Lib.hid how
    have hzr := ho.size
    have hfl := heap_lt hbk
    have HER := Lib.hid (HXW.out wr ho)
    clear ho hs hbk how
    by_cases hlt : j < t.args.length
    · obtain ⟨b, o, xa, xb, rfl, hbl, yc, yt⟩ := HT.out.arg hlt
      obtain ⟨c0, c1, c2, c3, c4⟩ := yc.below HER.out
      have HXS := Lib.hid (HA.out j _ (List.getElem?_eq_getElem hlt) xa xb yt)
      obtain ⟨_, ⟨Ax, cx, rfl, -, -⟩, ⟨Bx, dx, rfl, -, -⟩⟩ := yt.form
      have HTK : Hid (t.args.take (j + 1) = t.args.take j ++ [t.args[j]]) := List.take_succ_eq_append_getElem hlt
      have HBD : Hid (bndA (t.args.take j) + bndN t.args[j] ≤ bndA t.args) := by
        show _ ≤ _
        have h1 := bndA_append (t.args.drop (j + 1)) (t.args.take (j + 1))
        rw [List.take_append_drop, HTK.out, bndA_append] at h1
        simp only [bndA] at h1
        omega
      generalize t.args[j] = x at *
      have hbd := HBD.out
      have hN := HN.out
      have HEX := Lib.hid (Ext.al wr (.cells #[.int .i64 x.op, .int .i64 x.n, .int .i64 x.ty, .slice Ax x.args.length cx, .slice Bx x.brs.length dx] 36))
      have HNX := Lib.hid (heapNew wr (.cells #[.int .i64 x.op, .int .i64 x.n, .int .i64 x.ty, .slice Ax x.args.length cx, .slice Bx x.brs.length dx] 36))
      have hz1 : (wr.alloc (.cells #[.int .i64 x.op, .int .i64 x.n, .int .i64 x.ty, .slice Ax x.args.length cx, .slice Bx x.brs.length dx] 36)).heap.size = wr.heap.size + 1 := by simp
      clear yc yt
      go_wp2
      generalize wr.alloc _ = w1 at *
      have HBW := Lib.hid (HEX.out.lt HBK.out)
      have m7 := cellAt HBW.out 7
      have n0 := cellAt HNX.out 0
      have n1 := cellAt HNX.out 1
      have n2 := cellAt HNX.out 2
      have n3 := cellAt HNX.out 3
      have n4 := cellAt HNX.out 4
      have HOW1 := Lib.hid (own_below HOW.out HEX.out)
      have HCALL : Hid (∀ W, Ext w1 W → Calls Tryz.prog 93 #[.map (some sb), nV x (.slice Ax x.args.length cx) (.slice Bx x.brs.length dx), upV vd vf] W fun e w8 => e = .returned (.int .i64 (sortN C Sc4 x)) ∧ SC w8 sb (n + z + 2 * bndA (t.args.take j) + 2 * bndN x) S5 ∧ Only (fun j => j = sb) w1 w8) := fun W hW => by
        refine (HXS.out W (n + z + 2 * bndA (t.args.take j)) S5 Sc4 ((HER.out.tr HEX.out).tr hW) (HS.out.ext (HEX.out.tr hW)) HP4.out HN4.out (by omega)).mono ?_
        rintro e w8 ⟨rfl, h1, h2⟩
        exact ⟨rfl, h1, (Only.of_ext hW).tr h2⟩
      have HOB : Hid (∀ g, (Value.slice Aj j cj).ownBlock = some g → w4.heap.size ≤ g) := fun g h => by obtain ⟨_, _, _, h2⟩ := own_shape HOW.out; exact (h2 g h).1
      have hxl : (List.map (Value.int .i64) (sortA C Sc4 (t.args.take j))).length = j := by rw [List.length_map, HSA.out, List.length_map, List.length_take]; omega
      go_region_law (first
        | (refine app_row Tryz.underlying205 Tryz.iSort rfl (by decide) (.tmp 58) (.tmp 63) rfl w4.heap.size (.slice Aj j cj) j _ rfl (own_below HOW8.out (Ext.al _ _)) (some ⟨w8.heap.size, 0, none⟩) 1 1 [.int .i64 (sortN C Sc4 x)] rfl (src_one (heapNew _ _)) (one_mem rfl) (by unfold maxLen; omega) (by omega) (by simp only [World.size_alloc]; omega) ?_
           intro v9 w9 hown hgr hthird
           obtain ⟨A9, c9, rfl, hg9⟩ := own_shape hown
           have HBK9 := Lib.hid (grow_at hgr ((Ext.al w8 (.cells #[.int .i64 (sortN C Sc4 x)] 78)).lt HBK8.out) (fun g h => by have := HOB.out g h; omega))
           have k7 := cellAt HBK9.out 7
           have g7 := frozenAt HBK9.out 7
           have HGR := Lib.hid hgr; have HOWN := Lib.hid hown
           clear hgr hown hthird)
        | (go_simp; go_wp2_with (go_at_call 93; (with_reducible refine (HCALL.out _ (by first | exact (Ext.rf _).drew | exact Ext.rf _)).mono ?_); rintro e w8 ⟨rfl, hs8, ho8⟩; have HO8 := Lib.hid ho8; have HS8 := Lib.hid hs8; have HBK8 := Lib.hid (ho8.lt HBW.out (by omega)); have p7 := cellAt HBK8.out 7; have p7' := cellAt (Ext.lt (Ext.al w8 (.cells #[.int .i64 (sortN C Sc4 x)] 78)) HBK8.out) 7; have HOW8 := Lib.hid (own_only HOW1.out ho8 (fun g h => by have := HOB.out g h; omega)); have hz8 := ho8.size; clear hs8 ho8)))
      all_goals
        have HO9 : Hid (Only (fun b => b = sb ∨ b = w.heap.size + 1) w4 w9) := Only.grow (((HO.out.tr (Only.of_ext HEX.out)).tr (HO8.out.mono (fun b _ h => .inl h))).tr (Only.of_ext (Ext.al w8 (.cells #[.int .i64 (sortN C Sc4 x)] 78)))) HGR.out HOB.out
        have HS9 : Hid (SC w9 sb _ S5) := (HS8.out.ext (Ext.al w8 (.cells #[.int .i64 (sortN C Sc4 x)] 78))).block (HGR.out.block sb (by simp only [World.size_alloc]; omega) (fun e => by have := HOB.out _ e.symm; omega))
        go_wp2
        refine ⟨⟨j + 1, A9, c9, by omega, by go_num, HO9.out.tr (Only.setCell (p := ⟨w.heap.size + 1, 7, none⟩) (.inr rfl) _ _), ?_, blk_set HBK9.out 7 _, ?_⟩, by simp [intOf]; omega⟩
        · rw [HTK.out, bndA_append]
          simp only [bndA, Nat.add_zero]
          exact (HS9.out.block (set_other _ (by omega))).mono (by omega)
        · rw [HTK.out, HSA.out, List.map_append, List.map_append]
          have h := HOWN.out
          rw [HSA.out] at h
          exact own_only h (Only.setCell (C := fun b => b = w.heap.size + 1) (p := ⟨w.heap.size + 1, 7, none⟩) rfl _ _) (fun g h => by have := (hg9 g h).1; omega)
    · have hjl : j = t.args.length := by omega
      have HSr : Hid (SC wr sb (n + z + 2 * bndA t.args) S5) := by have := HS.out; rw [List.take_of_length_le (by omega)] at this; exact this
      have HOWr : Hid (wr.ownsRow w4.heap.size 78 1 (.slice Aj t.args.length cj) t.args.length ((sortA C Sc4 t.args).map (Value.int .i64))) := by have := HOW.out; rw [List.take_of_length_le (by omega), hjl] at this; exact this
      clear HS HOW
      subst hjl
      have hN := HN.out
      have HLV := Lib.hid (HLO.out.calls wr _ HO.out HSr.out (by omega))
      have henr := HENT cap5 wr
      go_wp2_with fail
      refine (HLV.out).mono ?_
      rintro e w10 ⟨rfl, hs10, ho10⟩
      have HS10 := Lib.hid hs10; have HO10 := Lib.hid ho10
      have HBN10 := Lib.hid (ho10.lt (HO.out.lt HBB1.out (by omega)) (by omega))
      have HBK10 := Lib.hid (ho10.lt HBK.out (by omega))
      have hz10 := ho10.size
      obtain ⟨_, _, _, hg1⟩ := own_shape HOWr.out
      have HG1 : Hid (∀ g, (Value.slice Aj t.args.length cj).ownBlock = some g → w4.heap.size ≤ g ∧ g < wr.heap.size) := hg1
      have HOW10 := Lib.hid (own_only HOWr.out ho10 (fun g h => by have := hg1 g h; omega))
      have HO410 : Hid (Only (fun b => b = sb ∨ b = w.heap.size + 1) w4 w10) := HO.out.tr (ho10.mono (fun b _ h => .inl h))
      have HX10 : Hid (Ext wA w10) := HXW.out _ (HO.out.tr (ho10.mono (fun b _ h => .inl h)))
      have HSB2 := Lib.hid (fun l => sortB_map C Sc l)
      have r4 := cellAt HBN10.out 4
      clear hs10 ho10 hg1 henr HLV HS7 HBB7 HOW6 HOWr HSr HBK HN4 HP4 HSA HLO
      go_wp2
      go_loopw [72] (fun i wr => ∃ (j : Nat) (Bj : Option Addr) (bj : Nat) (XS : List Value), j ≤ t.brs.length ∧ i = .int .i64 j ∧ Only (fun b => b = sb ∨ b = w.heap.size + 1) w10 wr ∧ SC wr sb (n + z + 2 * bndA t.args + z + 2 * bndB (t.brs.take j)) S ∧ wr.heap[w.heap.size + 1]? = some (fldB t (.slice A t.args.length c) (.slice B t.brs.length d) (.slice A5 z c5) (.slice Aj t.args.length cj) (.slice Bj j bj)) ∧ wr.ownsRow w10.heap.size 211 2 (.slice Bj j bj) j XS ∧ odds XS (sortB C Sc (t.brs.take j))) (fun i _ => t.brs.length - (intOf i).toNat)
      case atStart => exact ⟨0, none, 0, [], Nat.zero_le _, rfl, Only.rf _ _, by simpa [bndB] using HS10.out, HBK10.out, own_nil', fun i s h => by simp [sortB] at h⟩
      case round =>
        obtain ⟨j, Bj, bj, XS, hj, rfl, ho, hs, hbk, how, hod⟩ := hrel
        have HO := Lib.hid ho; have HS := Lib.hid hs; have HBK := Lib.hid hbk; have HOW := Lib.hid how; have HOD := Lib.hid hod
        have hzr := ho.size
        have hfl := heap_lt hbk
        have HER : Hid (Ext wA wr) := HX10.out.trans (Only.below (C := fun b => b = sb ∨ b = w.heap.size + 1) ho HX10.out.size (fun j hj => by have := HSB.out; have := HX.out.size; omega))
        clear ho hs hbk how hod
        by_cases hlt : j < t.brs.length
        · obtain ⟨b, o, vv, vc, xa, xb, rfl, hbl, y0, y1, y2, y3, yc, yt⟩ := HT.out.br hlt
          have HXS := Lib.hid (HB.out j _ (List.getElem?_eq_getElem hlt) vv vc xa xb y1 y3 yt)
          have y0 := HER.out.keep y0
          have y2 := HER.out.keep y2
          obtain ⟨c0, c1, c2, c3, c4⟩ := yc.below HER.out
          obtain ⟨_, ⟨Ax, cx, rfl, -, -⟩, ⟨Bx, dx, rfl, -, -⟩⟩ := yt.form
          obtain ⟨Av, cv, rfl, -, -⟩ := y1.form
          obtain ⟨Ac, cc, rfl, -, -⟩ := y3.form
          have HTK : Hid (t.brs.take (j + 1) = t.brs.take j ++ [t.brs[j]]) := List.take_succ_eq_append_getElem hlt
          have HBD : Hid (bndB (t.brs.take j) + (t.brs[j].1.length + bndN t.brs[j].2.2) ≤ bndB t.brs) := by
            show _ ≤ _
            have h1 := bndB_append (t.brs.drop (j + 1)) (t.brs.take (j + 1))
            rw [List.take_append_drop, HTK.out, bndB_append, bndB_one] at h1
            omega
          clear y1 y3 yc yt
          generalize t.brs[j] = br at *
          obtain ⟨vs, cs, x⟩ := br
          dsimp only at *
          have hbd := HBD.out
          have HEX := Lib.hid (Ext.al wr (.cells #[.slice Av vs.length cv, .slice Ac cs.length cc, .int .i64 x.op, .int .i64 x.n, .int .i64 x.ty, .slice Ax x.args.length cx, .slice Bx x.brs.length dx] 97))
          have HNX := Lib.hid (heapNew wr (.cells #[.slice Av vs.length cv, .slice Ac cs.length cc, .int .i64 x.op, .int .i64 x.n, .int .i64 x.ty, .slice Ax x.args.length cx, .slice Bx x.brs.length dx] 97))
          have hz1 : (wr.alloc (.cells #[.slice Av vs.length cv, .slice Ac cs.length cc, .int .i64 x.op, .int .i64 x.n, .int .i64 x.ty, .slice Ax x.args.length cx, .slice Bx x.brs.length dx] 97)).heap.size = wr.heap.size + 1 := by simp
          go_wp2
          generalize wr.alloc _ = w1 at *
          have HBW := Lib.hid (HEX.out.lt HBK.out)
          have m8 := cellAt HBW.out 8
          have n0 := cellAt HNX.out 0
          have n1 := cellAt HNX.out 1
          have n2 := cellAt HNX.out 2
          have n3 := cellAt HNX.out 3
          have n4 := cellAt HNX.out 4
          have n5 := cellAt HNX.out 5
          have n6 := cellAt HNX.out 6
          have HOW1 := Lib.hid (own_below HOW.out HEX.out)
          obtain ⟨s, hs⟩ : ∃ s, sortN C (addS Sc (zipCo vs cs)) x = s := ⟨_, rfl⟩
          have HCALL : Hid (∀ W, Ext w1 W → Calls Tryz.prog 120 #[.map (some sb), brV (.slice Av vs.length cv) (.slice Ac cs.length cc) x (.slice Ax x.args.length cx) (.slice Bx x.brs.length dx), upV vd vf] W fun e w8 => (∃ A c, e = .returned (.agg #[.slice A vs.length c, .int .i64 s])) ∧ SC w8 sb (n + z + 2 * bndA t.args + z + 2 * bndB (t.brs.take j) + 2 * (vs.length + bndN x)) S ∧ Only (fun j => j = sb) w1 w8) := fun W hW => by
            refine (HXS.out W (n + z + 2 * bndA t.args + z + 2 * bndB (t.brs.take j)) S Sc ((HER.out.tr HEX.out).tr hW) (HS.out.ext (HEX.out.tr hW)) HS1.out HS2.out (by show _ + 2 * (vs.length + bndN x) ≤ _; omega)).mono ?_
            rintro e w8 ⟨⟨A, c, rfl⟩, h1, h2⟩
            exact ⟨⟨A, c, by rw [← hs]⟩, h1, (Only.of_ext hW).tr h2⟩
          have HOB : Hid (∀ g, (Value.slice Bj j bj).ownBlock = some g → w10.heap.size ≤ g) := fun g h => by obtain ⟨_, _, _, h2⟩ := own_shape HOW.out; exact (h2 g h).1
          have HSS := Lib.hid hs
          clear hs
          go_region_law (first
            | (refine app_row Tryz.underlying206 Tryz.iFB rfl (by decide) (.tmp 77) (.tmp 82) rfl w10.heap.size (.slice Bj j bj) j XS rfl (own_below HOW8.out (Ext.al _ _)) (some ⟨w8.heap.size, 0, none⟩) 1 1 [.slice A8 vs.length c8, .int .i64 s] rfl (src_two (heapNew _ _)) (two_mem rfl rfl) (by unfold maxLen; omega) (by omega) (by simp only [World.size_alloc]; omega) ?_
               intro v9 w9 hown hgr hthird
               obtain ⟨A9, c9, rfl, hg9⟩ := own_shape hown
               have HBK9 := Lib.hid (grow_at hgr ((Ext.al w8 (.cells #[.slice A8 vs.length c8, .int .i64 s] 211)).lt HBK8.out) (fun g h => by have := HOB.out g h; omega))
               have k8 := cellAt HBK9.out 8
               have g8 := frozenAt HBK9.out 8
               have HGR := Lib.hid hgr; have HOWN := Lib.hid hown
               clear hgr hown hthird)
            | (go_simp; go_wp2_with (go_at_call 120; (with_reducible refine (HCALL.out _ (by first | exact (Ext.rf _).drew | exact Ext.rf _)).mono ?_); rintro e w8 ⟨⟨A8, c8, rfl⟩, hs8, ho8⟩; have HO8 := Lib.hid ho8; have HS8 := Lib.hid hs8; have HBK8 := Lib.hid (ho8.lt HBW.out (by omega)); have p8 := cellAt HBK8.out 8; have p8' := cellAt (Ext.lt (Ext.al w8 (.cells #[.slice A8 vs.length c8, .int .i64 s] 211)) HBK8.out) 8; have HOW8 := Lib.hid (own_only HOW1.out ho8 (fun g h => by have := HOB.out g h; omega)); have hz8 := ho8.size; clear hs8 ho8)))
          all_goals
            have HO9 : Hid (Only (fun b => b = sb ∨ b = w.heap.size + 1) w10 w9) := Only.grow (((HO.out.tr (Only.of_ext HEX.out)).tr (HO8.out.mono (fun b _ h => .inl h))).tr (Only.of_ext (Ext.al w8 (.cells #[.slice A8 vs.length c8, .int .i64 s] 211)))) HGR.out HOB.out
            have HS9 : Hid (SC w9 sb _ S) := (HS8.out.ext (Ext.al w8 (.cells #[.slice A8 vs.length c8, .int .i64 s] 211))).block (HGR.out.block sb (by simp only [World.size_alloc]; omega) (fun e => by have := HOB.out _ e.symm; omega))
            go_wp2
            refine ⟨⟨j + 1, A9, c9, _, by omega, by go_num, HO9.out.tr (Only.setCell (p := ⟨w.heap.size + 1, 8, none⟩) (.inr rfl) _ _), ?_, blk_set HBK9.out 8 _, own_only HOWN.out (Only.setCell (C := fun b => b = w.heap.size + 1) (p := ⟨w.heap.size + 1, 8, none⟩) rfl _ _) (fun g h => by have := (hg9 g h).1; omega), ?_⟩, by simp [intOf]; omega⟩
            · rw [HTK.out, bndB_append]
              simp only [bndB, Nat.add_zero]
              exact (HS9.out.block (set_other _ (by omega))).mono (by omega)
            · rw [HTK.out, HSB2.out, List.map_append, ← HSB2.out]
              show odds _ (_ ++ [sortN C (addS Sc (zipCo vs cs)) x])
              rw [HSS.out]
              exact odds_snoc (by rw [HOW.out.1, HSB2.out, List.length_map, List.length_take]; omega) HOD.out
        · have hjl : j = t.brs.length := by omega
          have HSr : Hid (SC wr sb (n + z + 2 * bndA t.args + z + 2 * bndB t.brs) S) := by have := HS.out; rw [List.take_of_length_le (by omega)] at this; exact this
          have HODr : Hid (odds XS (sortB C Sc t.brs)) := by have := HOD.out; rw [List.take_of_length_le (by omega)] at this; exact this
          subst hjl
          have hLA : (sortA C Sc4 t.args).length = t.args.length := by rw [sortA_map, List.length_map]
          have hLB : (sortB C Sc t.brs).length = t.brs.length := by rw [sortB_map, List.length_map]
          have HFA : Hid (RInts wr (.slice Aj t.args.length cj) (sortA C Sc4 t.args)) := by
            refine own_ints (B := w4.heap.size) (e := 78) (fun x hx => ?_) ?_
            · rw [sortA_map, List.mem_map] at hx
              obtain ⟨y, _, rfl⟩ := hx
              have := sortN_range C Sc4 y
              exact ok_small this.1 this.2
            · rw [hLA]
              exact own_only HOW10.out HO.out (fun g h => by have := HG1.out g h; omega)
          have HFB : Hid (RFbs wr (.slice Bj t.brs.length bj) (sortB C Sc t.brs)) := own_fbs (B := w10.heap.size) (e := 211) HODr.out (by rw [hLB]; exact HOW.out)
          have m0 := cellAt HBK.out 0
          have m1 := cellAt HBK.out 1
          have m2 := cellAt HBK.out 2
          have m3 := cellAt HBK.out 3
          have m4 := cellAt HBK.out 4
          have m5 := cellAt HBK.out 5
          have m6 := cellAt HBK.out 6
          have m7 := cellAt HBK.out 7
          have m8 := cellAt HBK.out 8
          have HUPC := Lib.hid (HUP.out (.slice A5 z c5) (.slice Aj t.args.length cj) (.slice Bj t.brs.length bj) (sortA C Sc4 t.args) (sortB C Sc t.brs) wr HER.out HFA.out HFB.out hLB)
          go_wp2_with (go_at_call 94; (with_reducible refine (HUPC.out).mono ?_); rintro e w13 ⟨rfl, hE13⟩)
          go_ret
          refine ⟨ret_int HR.out.symm, (HSr.out.ext hE13).mono (by omega), ?_⟩
          have h1 : Only (fun b => b = sb ∨ b = w.heap.size + 1) w wr := ((HO4.out.mono (fun b _ h => .inl h)).tr HO410.out).tr HO.out
          exact (h1.mono (fun b hb h => by rcases h with h | h <;> omega)).tr (Only.of_ext hE13)
end Go.Proofs.YtkdhhcidpklgoaaGreatDoor

/- node: Fold, In. -/
namespace Go.Proofs.YtkdhhcidpklgoaaGreatDoor
open Go.RowKit Go.Shelf
attribute [local go_sem] Oper.semAt_some

theorem bndA_mem : ∀ {l : List Nd} {x : Nd}, x ∈ l → bndN x ≤ bndA l
  | a :: r, x, h => by
    rcases List.mem_cons.1 h with rfl | h
    · simp only [bndA]; omega
    · have := bndA_mem h; simp only [bndA]; omega
theorem cntA_mem : ∀ {l : List Nd} {x : Nd}, x ∈ l → cntN x ≤ cntA l
  | a :: r, x, h => by
    rcases List.mem_cons.1 h with rfl | h
    · simp only [cntA]; omega
    · have := cntA_mem h; simp only [cntA]; omega
theorem bndB_mem : ∀ {l : List Br} {x : Br}, x ∈ l → bndN x.2.2 ≤ bndB l
  | (v, c, a) :: r, x, h => by
    rcases List.mem_cons.1 h with rfl | h
    · simp only [bndB]; omega
    · have := bndB_mem h; simp only [bndB]; omega
theorem cntB_mem : ∀ {l : List Br} {x : Br}, x ∈ l → cntN x.2.2 ≤ cntB l
  | (v, c, a) :: r, x, h => by
    rcases List.mem_cons.1 h with rfl | h
    · simp only [cntB]; omega
    · have := cntB_mem h; simp only [cntB]; omega
theorem BN.arg {t x : Nd} (h : BN t) (hx : x ∈ t.args) : BN x :=
  ⟨by have h1 := h.b; rw [bndN_eq] at h1; have := bndA_mem hx; omega, by have h1 := h.c; rw [cntN_eq] at h1; have := cntA_mem hx; omega⟩
theorem BN.br {t : Nd} {x : Br} (h : BN t) (hx : x ∈ t.brs) : BN x.2.2 :=
  ⟨by have h1 := h.b; rw [bndN_eq] at h1; have := bndB_mem hx; omega, by have h1 := h.c; rw [cntN_eq] at h1; have := cntB_mem hx; omega⟩
theorem fold_all (vd vf : Value) (C : Cg) (wA : World) (sb : Nat) (hC : RCg wA vd vf C) (hS : ShC C) (htab : Tabs wA) (hsb : wA.heap.size ≤ sb) : ∀ (k : Nat) (t : Nd) (va vb : Value), RNd wA k t va vb → BN t → FoldS C vd vf wA sb t va vb := by
  intro k
  induction k with
  | zero => intro t va vb h; exact h.elim
  | succ k ih =>
    intro t va vb ht hb
    cases hl : leafB t.op
    · refine foldNode vd vf C wA sb k t va vb hC hS htab ht hb hsb hl (fun i x hi xa xb hx => ih x xa xb hx (hb.arg (List.mem_of_getElem? hi))) (fun i x hi vv vc xa xb hv hc hx => ?_)
      exact foldBr_any vd vf C wA sb x.1 x.2.1 x.2.2 vv vc xa xb (ih _ xa xb hx (hb.br (List.mem_of_getElem? hi))) hv hc (hb.short x (List.mem_of_getElem? hi)) hsb ⟨k, hx⟩
    · exact foldLeaf vd vf C wA sb k t va vb hC hS htab ht hb hsb hl
set_option maxHeartbeats 8000000 in
set_option maxRecDepth 100000 in
/-- The sort of a node in the scope of variables. -/
theorem in_any (vd vf : Value) (C : Cg) (w : World) (hC : RCg w vd vf C) (hS : ShC C) (htab : Tabs w) (k : Nat) (t : Nd) (va vb : Value) (ht : RNd w k t va vb) (hb : BN t) (vs : Value) (l : List Vr) (hl : RVrs w vs l) (hll : l.length ≤ 1048576) :
    Calls Tryz.prog 66 #[cV vd vf, vs, nV t va vb] w fun e w' => e = .returned (.int .i64 (sortN C (addS (fun _ => false) l) t)) ∧ Ext w w' := by
  have HS1 : Hid (∀ x : Vr, ∃ p, (fun _ => nilP : Vr → Value) x = .pointer p) := fun x => ⟨none, rfl⟩
  have hbn := hb.b
  obtain ⟨-, ⟨A, c, rfl, -, -⟩, ⟨B, d, rfl, -, -⟩⟩ := ht.form
  obtain ⟨Al, cl, rfl, -, -⟩ := hl.form
  obtain ⟨Ad, cd, rfl, -, -⟩ := hC.d.form
  obtain ⟨Af, cf, rfl, -, -⟩ := hC.f.form
  have HC := Lib.hid hC; have HS := Lib.hid hS; have HTAB := Lib.hid htab; have HT := Lib.hid ht; have HB := Lib.hid hb; have HL := Lib.hid hl
  have hmm := @run_makeMap Tryz.prog
  have hmf : ∀ (fn : Fn) (first cap : Array Value) (w : World), (Instr.makeFunc fn first cap).run Tryz.prog w = .ok (.func fn first cap) w := fun _ _ _ _ => rfl
  obtain ⟨w3, hw3⟩ : ∃ w3, w3 = ((w.alloc (.cells #[.slice Ad C.decls.length cd, .slice Af C.funs.length cf] 25)).alloc (.cells #[.int .i64 t.op, .int .i64 t.n, .int .i64 t.ty, .slice A t.args.length c, .slice B t.brs.length d] 36)).alloc (.map #[] 0) := ⟨_, rfl⟩
  have HE3 : Hid (Ext w w3) := by show Ext w w3; rw [hw3]; exact ((Ext.al _ _).tr (Ext.al _ _)).tr (Ext.al _ _)
  have hz3 : w3.heap.size = w.heap.size + 3 := by rw [hw3]; simp
  have HSC3 : Hid (SC w3 (w.heap.size + 1 + 1) 0 (fun _ => nilP)) := by
    have := MapZ.new vrT nilP ((w.alloc (.cells #[.slice Ad C.decls.length cd, .slice Af C.funs.length cf] 25)).alloc (.cells #[.int .i64 t.op, .int .i64 t.n, .int .i64 t.ty, .slice A t.args.length c, .slice B t.brs.length d] 36))
    rw [← hw3] at this
    simp only [World.size_alloc] at this
    exact this
  have HP3 : Hid (w3.heap[w.heap.size]? = some (.cells #[.slice Ad C.decls.length cd, .slice Af C.funs.length cf] 25 (0, 0))) := by
    show _ = _; rw [hw3]; exact Ext.lt (Ext.al2 _ _ _) (heapNew w _)
  have HN3 : Hid (w3.heap[w.heap.size + 1]? = some (.cells #[.int .i64 t.op, .int .i64 t.n, .int .i64 t.ty, .slice A t.args.length c, .slice B t.brs.length d] 36 (0, 0))) := by
    show _ = _; rw [hw3]; exact Ext.lt (Ext.al _ _) (heapNew2 w _ _)
  have HEN := Lib.hid (enter_all (w.heap.size + 1 + 1) 0 (w.heap.size + 1) Al cl l (fun _ => nilP) w3 (hl.below HE3.out) HSC3.out hll (by omega) HS1.out (by omega) (fun h0 b o e => by
    obtain ⟨b', o', e', hb', _⟩ := hl.at_ h0
    rw [e] at e'; cases e'; omega))
  clear hC hS htab ht hb hl
  go_enter Tryz.func66, Tryz.ntmps66
  go_wp2_with fail
  rw [← hw3]
  clear hw3 hmm
  refine HEN.out.mono ?_
  rintro e w4 ⟨A5, c5, f5, cap5, S5, rfl, hs4, hp4, hn4, ho4, -⟩
  have HX4 : Hid (Ext w w4) := HE3.out.trans (ho4.below HE3.out.size (fun j h => by rw [h]; omega))
  have hb1 := ho4.lt HP3.out (by omega)
  have hb2 := ho4.lt HN3.out (by omega)
  have p0 := cellAt hb1 0
  have p1 := cellAt hb1 1
  have q0 := cellAt hb2 0
  have q1 := cellAt hb2 1
  have q2 := cellAt hb2 2
  have q3 := cellAt hb2 3
  have q4 := cellAt hb2 4
  have HFO := Lib.hid (fold_all _ _ C w (w.heap.size + 1 + 1) HC.out HS.out HTAB.out (by omega) k t _ _ HT.out HB.out w4 (0 + l.length) S5 (addS (fun _ => false) l) HX4.out hs4 hp4 (fun x => by rw [hn4 x]; rfl) (by omega))
  clear hs4 hp4 hn4 hb1 hb2
  go_wp2_with (go_at_call 93; (with_reducible refine (HFO.out).mono ?_); rintro e w5 ⟨rfl, -, ho5⟩)
  go_ret
  exact ⟨rfl, HX4.out.trans (ho5.below HX4.out.size (fun j h => by rw [h]; omega))⟩
end Go.Proofs.YtkdhhcidpklgoaaGreatDoor
