/- Maps as functions: a set of strings, a count of strings, a set of integers. -/
import Derived.Test.YtkdhhcidpklgoaaGreatDoorQ13
import Derived.Maps.Own
import Derived.Maps.OwnSet
import Derived.StringKeys
namespace Go.Proofs.YtkdhhcidpklgoaaGreatDoor
open Go.RowKit Go.Maps Go.WideMaps Go.ChangeMaps Go.MapKept

/-- Strings are equal if their bytes are. -/
def eqS (a b : ByteArray) : Bool := a.toList == b.toList
theorem eqS_iff {a b : ByteArray} : eqS a b = true ↔ a = b := by
  unfold eqS
  rw [beq_iff_eq, ByteArray.toList_eq, ByteArray.toList_eq]
  exact ⟨Go.WideShapes.bytes_inj, fun h => by rw [h]⟩
theorem eqS_ne {a b : ByteArray} (h : eqS a b = false) : a ≠ b := fun e => by rw [eqS_iff.2 e] at h; cases h
theorem hasS_append (S T : List ByteArray) (k : ByteArray) : hasS (S ++ T) k = (hasS S k || hasS T k) := by simp [hasS]
section
variable {P : Program}
abbrev kS (s : ByteArray) : Lit := .string s.data.toList
theorem kS_ne {a b : ByteArray} (h : a ≠ b) : kS a ≠ kS b := fun e => h (Go.WideShapes.bytes_inj (by injection e))
theorem key_lit (s : ByteArray) : WideAt.IsKeyLit (kS s) := trivial

/-- All values of a map are true. -/
def AllT (D : DataW Unit) : Prop := ∀ kl z, has D kl = true → D.atKey kl z = .lit (.bool true)
/-- A set of strings, at most n of them. -/
def SetO (P : Program) (w : World) (b n : Nat) (f : ByteArray → Bool) : Prop :=
  ∃ D : DataW Unit, w.ownsMap P 9 (plainElem P 4) b n D ∧ (∀ k, has D (kS k) = f k) ∧ AllT D
/-- A count of strings. -/
def CntO (P : Program) (w : World) (b n : Nat) (f : ByteArray → Int) : Prop :=
  ∃ D : DataW Unit, w.ownsMap P 9 (plainElem P 3) b n D ∧ ∀ k, D.atKey (kS k) (.lit (.int .i64 0)) = .lit (.int .i64 (f k))
/-- A set of integers. -/
def IntO (P : Program) (w : World) (b n : Nat) (f : Int → Bool) : Prop :=
  ∃ D : DataW Unit, w.ownsMap P 3 (plainElem P 4) b n D ∧ ∀ k, has D (.int .i64 k) = f k

theorem owns_block {w w' : World} {k : TypeId} {R : Value → Option (DataW Unit × List MemPlace)} {b n : Nat} {D : DataW Unit} (h : w.ownsMap P k R b n D) (hb : w'.heap[b]? = w.heap[b]?) : w'.ownsMap P k R b n D := by
  obtain ⟨es, clock, he, r⟩ := h
  exact ⟨es, clock, hb.trans he, r⟩
theorem SetO.block {w w' : World} {b n : Nat} {f : ByteArray → Bool} (h : SetO P w b n f) (hb : w'.heap[b]? = w.heap[b]?) : SetO P w' b n f := by
  obtain ⟨D, h1, h2⟩ := h; exact ⟨D, owns_block h1 hb, h2⟩
theorem CntO.block {w w' : World} {b n : Nat} {f : ByteArray → Int} (h : CntO P w b n f) (hb : w'.heap[b]? = w.heap[b]?) : CntO P w' b n f := by
  obtain ⟨D, h1, h2⟩ := h; exact ⟨D, owns_block h1 hb, h2⟩
theorem IntO.block {w w' : World} {b n : Nat} {f : Int → Bool} (h : IntO P w b n f) (hb : w'.heap[b]? = w.heap[b]?) : IntO P w' b n f := by
  obtain ⟨D, h1, h2⟩ := h; exact ⟨D, owns_block h1 hb, h2⟩
theorem SetO.lt {w : World} {b n : Nat} {f : ByteArray → Bool} (h : SetO P w b n f) : b < w.heap.size := by obtain ⟨D, h1, _⟩ := h; exact h1.lt
theorem CntO.lt {w : World} {b n : Nat} {f : ByteArray → Int} (h : CntO P w b n f) : b < w.heap.size := by obtain ⟨D, h1, _⟩ := h; exact h1.lt
theorem IntO.lt {w : World} {b n : Nat} {f : Int → Bool} (h : IntO P w b n f) : b < w.heap.size := by obtain ⟨D, h1, _⟩ := h; exact h1.lt
theorem SetO.ext {w w' : World} {b n : Nat} {f : ByteArray → Bool} (h : SetO P w b n f) (hb : Ext w w') : SetO P w' b n f := h.block (hb.block b h.lt)
theorem CntO.ext {w w' : World} {b n : Nat} {f : ByteArray → Int} (h : CntO P w b n f) (hb : Ext w w') : CntO P w' b n f := h.block (hb.block b h.lt)
theorem IntO.ext {w w' : World} {b n : Nat} {f : Int → Bool} (h : IntO P w b n f) (hb : Ext w w') : IntO P w' b n f := h.block (hb.block b h.lt)
theorem SetO.mono {w : World} {b n m : Nat} {f : ByteArray → Bool} (h : SetO P w b n f) (hm : n ≤ m) : SetO P w b m f := by obtain ⟨D, h1, h2⟩ := h; exact ⟨D, h1.mono hm, h2⟩
theorem CntO.mono {w : World} {b n m : Nat} {f : ByteArray → Int} (h : CntO P w b n f) (hm : n ≤ m) : CntO P w b m f := by obtain ⟨D, h1, h2⟩ := h; exact ⟨D, h1.mono hm, h2⟩
theorem IntO.mono {w : World} {b n m : Nat} {f : Int → Bool} (h : IntO P w b n f) (hm : n ≤ m) : IntO P w b m f := by obtain ⟨D, h1, h2⟩ := h; exact ⟨D, h1.mono hm, h2⟩
theorem SetO.is {w : World} {b n : Nat} {f : ByteArray → Bool} (h : SetO P w b n f) : ∃ es clock, w.heap[b]? = some (.map es clock) := by obtain ⟨D, ⟨es, clock, he, _⟩, _⟩ := h; exact ⟨es, clock, he⟩
theorem CntO.is {w : World} {b n : Nat} {f : ByteArray → Int} (h : CntO P w b n f) : ∃ es clock, w.heap[b]? = some (.map es clock) := by obtain ⟨D, ⟨es, clock, he, _⟩, _⟩ := h; exact ⟨es, clock, he⟩
theorem IntO.is {w : World} {b n : Nat} {f : Int → Bool} (h : IntO P w b n f) : ∃ es clock, w.heap[b]? = some (.map es clock) := by obtain ⟨D, ⟨es, clock, he, _⟩, _⟩ := h; exact ⟨es, clock, he⟩
theorem SetO.new (w : World) : SetO P (w.alloc (.map #[] 0)) w.heap.size 0 (fun _ => false) := ⟨_, World.ownsMap_made w P 9 _, fun _ => rfl, fun _ _ h => by cases h⟩
theorem CntO.new (w : World) : CntO P (w.alloc (.map #[] 0)) w.heap.size 0 (fun _ => 0) := ⟨_, World.ownsMap_made w P 9 _, fun _ => rfl⟩
theorem IntO.new (w : World) : IntO P (w.alloc (.map #[] 0)) w.heap.size 0 (fun _ => false) := ⟨_, World.ownsMap_made w P 3 _, fun _ => rfl⟩


variable {w : World} {b n : Nat} (h4 : P.underlying 4 = some .bool) (h3 : P.underlying 3 = some (.int .i64)) (h9 : P.underlying 9 = some .string)
include h9

include h4 in
theorem run_lookup_setO {f : ByteArray → Bool} (t : TypeId) (ht : P.underlying t = some (.map 9 4)) (h : SetO P w b n f) (hz : (zeroValue 4).run P w = .ok (.bool false) w) {k : ByteArray} (hk : k.size ≤ maxLen) :
    (Instr.lookup t (.map (some b)) (.string k) false).run P w = .ok (.bool (f k)) w := by
  obtain ⟨D, hown, hf, hT⟩ := h
  obtain ⟨v, ps, hrun, hR⟩ := hown.lookup (string_keyed h9) ht hz (plainElem_bool h4 false) (keyOf_string_mk h9 hk)
  rw [hrun]
  cases hc : f k with
  | false =>
    rw [atKey_of_not_has (by rw [hf]; exact hc)] at hR
    cases v <;> simp [plainElem, h4] at hR
    rw [hR.1]
  | true =>
    rw [hT _ _ (by rw [hf]; exact hc)] at hR
    cases v <;> simp [plainElem, h4] at hR
    rw [hR.1]
include h4 in
theorem run_update_setO {f : ByteArray → Bool} (t : TypeId) (ht : P.underlying t = some (.map 9 4)) (h : SetO P w b n f) (hn : n < maxLen) {k : ByteArray} (hk : k.size ≤ maxLen) :
    ∃ w', (Instr.mapUpdate t (.map (some b)) (.string k) (.bool true)).run P w = .ok () w' ∧ SetO P w' b (n + 1) (fun x => eqS x k || f x) ∧ w.grownBy w' (some b) ∧ w'.heap.size = w.heap.size := by
  obtain ⟨D, hown, hf, hT⟩ := h
  obtain ⟨w', hrun, ho, es, clock, es', clock', _, hw'⟩ := hown.store (string_keyed h9) ht hn (keyOf_string_mk h9 hk) (plainElem_bool h4 true)
  refine ⟨w', hrun, ⟨_, ho, fun x => ?_, fun kl z hk' => ?_⟩, World.mapTurned.grown ⟨es, clock, es', clock', by assumption, hw'⟩, by rw [hw']; simp [setBlock]⟩
  · show _ = (eqS x k || f x)
    cases hx : eqS x k with
    | true => rw [eqS_iff.1 hx]; exact has_put_same hown.isMap (key_lit k) _
    | false => rw [has_put_other (kS_ne (eqS_ne hx)), hf]; rfl
  · by_cases he : kl = kS k
    · subst he; exact atKey_put_same hown.isMap (key_lit k) _ _
    · rw [has_put_other he] at hk'
      rw [atKey_put_other he]; exact hT _ _ hk'
omit h9
end
end Go.Proofs.YtkdhhcidpklgoaaGreatDoor

/- core: the names, the sizes, the main function. -/
namespace Go.Proofs.YtkdhhcidpklgoaaGreatDoor
open Go.RowKit Go.Shelf
attribute [local go_sem] Oper.semAt_some

set_option maxRecDepth 100000 in
theorem declCheck_any (v : Value) (l : List Decl) (w : World) (h : RDecls w v l) : Calls Tryz.prog 76 #[v] w fun e w' => e = .returned (.int .i64 (if validB l then 0 else 10)) ∧ Ext w w' := by
  have HV := Lib.hid (valid_any v l)
  have H := Lib.hid h
  clear h
  generalize validB l = q at *
  cases q
  all_goals
    go_enter Tryz.func76, Tryz.ntmps76
    go_wp2_with (go_at_call 107; (with_reducible refine (HV.out _ H.out).mono ?_); rintro e w2 ⟨rfl, hx⟩)
    go_ret
    exact ⟨rfl, hx⟩
theorem distCF_step {f : ByteArray → Bool} {l : List CF} {k : Nat} (h : k < l.length) : distCF f (l.drop k) = (nameB l[k].nm && !f l[k].nm && distCF (fun x => eqS x l[k].nm || f x) (l.drop (k + 1))) := by
  rw [drop_step h]; rfl
set_option maxHeartbeats 8000000 in
set_option maxRecDepth 100000 in
theorem distinct_any (v : Value) (l : List CF) (w : World) (h : RCFs w v l) (hl : l.length ≤ 1048576) :
    Calls Tryz.prog 77 #[v] w fun e w' => e = .returned (.bool (distCF (fun _ => false) l)) ∧ Ext w w' := by
  have H := Lib.hid h
  obtain ⟨A, c, rfl, -, -⟩ := h.form
  clear h
  have hmm := @run_makeMap Tryz.prog
  have HS0 := Lib.hid (SetO.new (P := Tryz.prog) w)
  have HE1 := Lib.hid (Ext.al w (.map #[] 0))
  go_enter Tryz.func77, Tryz.ntmps77
  go_wp2
  generalize w.alloc _ = w1 at *
  clear hmm
  go_loopw [9] (fun i wr => ∃ (k : Nat) (f : ByteArray → Bool), k ≤ l.length ∧ i = .int .i64 k ∧ SetO Tryz.prog wr w.heap.size k f ∧ distCF (fun _ => false) l = distCF f (l.drop k) ∧ Only (fun j => j = w.heap.size) w1 wr) (fun i _ => l.length - (intOf i).toNat)
  case atStart => exact ⟨0, _, Nat.zero_le _, rfl, HS0.out, rfl, Only.rf _ _⟩
  case round =>
    obtain ⟨k, f, hk, rfl, hs, hd, ho⟩ := hrel
    have HS := Lib.hid hs; have HD := Lib.hid hd; have HO := Lib.hid ho
    have HX : Hid (Ext w wr) := HE1.out.trans (ho.below HE1.out.size (fun j h => by omega))
    clear hs hd ho
    by_cases hlt : k < l.length
    · obtain ⟨b, o, vp, vv, xa, xb, kk, rfl, hbl, y0, y1, y2, yn, hnm, hps, hvs, hbody⟩ := H.out.at_ hlt
      have y0 := HX.out.keep y0
      have y1 := HX.out.keep y1
      have y2 := HX.out.keep y2
      obtain ⟨c0, c1, c2, c3, c4⟩ := yn.below HX.out
      obtain ⟨-, ⟨Ax, cx, rfl, -, -⟩, ⟨Bx, dx, rfl, -, -⟩⟩ := hbody.form
      obtain ⟨Ap, cp, rfl, -, -⟩ := hps.form
      obtain ⟨Av, cv, rfl, -, -⟩ := hvs.form
      clear hps hvs hbody yn
      have HST := Lib.hid (distCF_step (f := f) hlt)
      have HNM := Lib.hid hnm
      generalize l[k] = x at *
      have HEX := Lib.hid (Ext.al wr (.cells #[.string x.nm, .slice Ap x.ps.length cp, .slice Av x.vars.length cv, .int .i64 x.body.op, .int .i64 x.body.n, .int .i64 x.body.ty, .slice Ax x.body.args.length cx, .slice Bx x.body.brs.length dx] 53))
      have HNX := Lib.hid (heapNew wr (.cells #[.string x.nm, .slice Ap x.ps.length cp, .slice Av x.vars.length cv, .int .i64 x.body.op, .int .i64 x.body.n, .int .i64 x.body.ty, .slice Ax x.body.args.length cx, .slice Bx x.body.brs.length dx] 53))
      have HSX := Lib.hid (HS.out.ext HEX.out)
      cases hq : nameB x.nm
      · have HQ : Hid (distCF (fun _ => false) l = false) := by show _ = _; rw [HD.out, HST.out, hq]; rfl
        go_wp2_with (go_at_call 108; (with_reducible refine (Plain_any _ _ HNM.out).mono ?_); rintro e w2 ⟨rfl, rfl⟩; rw [hq])
        go_ret
        exact ⟨ret_bool HQ.out.symm, HX.out.tr HEX.out⟩
      · have hlk := run_lookup_setO (P := Tryz.prog) (w := wr.alloc (.cells #[.string x.nm, .slice Ap x.ps.length cp, .slice Av x.vars.length cv, .int .i64 x.body.op, .int .i64 x.body.n, .int .i64 x.body.ty, .slice Ax x.body.args.length cx, .slice Bx x.body.brs.length dx] 53)) Tryz.underlying4 Tryz.underlying9 193 Tryz.underlying193 HSX.out (by kernel_rfl) HNM.out
        cases hfx : f x.nm
        · rw [hfx] at hlk
          obtain ⟨w10, hu, hs10, hg10, -⟩ := run_update_setO (P := Tryz.prog) (w := wr.alloc (.cells #[.string x.nm, .slice Ap x.ps.length cp, .slice Av x.vars.length cv, .int .i64 x.body.op, .int .i64 x.body.n, .int .i64 x.body.ty, .slice Ax x.body.args.length cx, .slice Bx x.body.brs.length dx] 53)) Tryz.underlying4 Tryz.underlying9 193 Tryz.underlying193 HSX.out (by unfold maxLen; omega) HNM.out
          have HS10 := Lib.hid hs10; have HG10 := Lib.hid (Only.grown hg10)
          clear hs10 hg10
          go_wp2_with (go_at_call 108; (with_reducible refine (Plain_any _ _ HNM.out).mono ?_); rintro e w2 ⟨rfl, rfl⟩; rw [hq])
          exact ⟨⟨k + 1, _, by omega, by go_num, HS10.out, by rw [HD.out, HST.out, hq, hfx]; rfl, (HO.out.tr (Only.of_ext HEX.out)).tr HG10.out⟩, by simp [intOf]; omega⟩
        · rw [hfx] at hlk
          have HQ : Hid (distCF (fun _ => false) l = false) := by show _ = _; rw [HD.out, HST.out, hq, hfx]; rfl
          go_wp2_with (go_at_call 108; (with_reducible refine (Plain_any _ _ HNM.out).mono ?_); rintro e w2 ⟨rfl, rfl⟩; rw [hq])
          go_ret
          exact ⟨ret_bool HQ.out.symm, HX.out.tr HEX.out⟩
    · have hkl : k = l.length := by omega
      subst hkl
      have HQ : Hid (distCF (fun _ => false) l = true) := by show _ = _; rw [HD.out, List.drop_length]; rfl
      go_wp2
      go_ret
      exact ⟨ret_bool HQ.out.symm, HX.out⟩

/-! ### the rank of a node -/
theorem RNd.cnt {w : World} : ∀ {k : Nat} {t : Nd} {va vb : Value}, RNd w k t va vb → RNd w (cntN t) t va vb
  | 0, _, _, _, h => h.elim
  | k + 1, t, va, vb, ⟨h0, ⟨A, c, e1, h1, h2, h3⟩, ⟨B, d, e2, h4, h5, h6⟩⟩ => by
    have hc := cntN_eq t
    rw [hc, Nat.add_comm]
    exact ⟨h0, ⟨A, c, e1, h1, h2, fun i x hi => by
      obtain ⟨b, o, xa, xb, e, hlt, hc, hr⟩ := h3 i x hi
      exact ⟨b, o, xa, xb, e, hlt, hc, RNd.mono (by have := cntA_mem (List.mem_of_getElem? hi); omega) (RNd.cnt hr)⟩⟩,
    ⟨B, d, e2, h4, h5, fun i x hi => by
      obtain ⟨b, o, vv, vc, xa, xb, e, hlt, hn, hs, hn2, hs2, hc, hr⟩ := h6 i x hi
      exact ⟨b, o, vv, vc, xa, xb, e, hlt, hn, hs, hn2, hs2, hc, RNd.mono (by have := cntB_mem (List.mem_of_getElem? hi); omega) (RNd.cnt hr)⟩⟩⟩

theorem sizesC_step {left : Int} {l : List CF} {k : Nat} (h : k < l.length) : sizesC left (l.drop k) = ((sizeC left 4000 l[k].body).2 && sizesC (left - (sizeC left 4000 l[k].body).1) (l.drop (k + 1))) := by
  rw [drop_step h]; rfl
theorem sizeC_le {a b : Int} {t : Nd} (ha : 0 ≤ a) : 0 ≤ (sizeC a b t).1 ∧ (sizeC a b t).1 ≤ a := by
  unfold sizeC
  split
  · rename_i h
    unfold sizeOK at h
    simp only [Bool.and_eq_true, decide_eq_true_eq] at h
    exact ⟨by simp, h.1⟩
  · exact ⟨by simp, ha⟩
set_option maxHeartbeats 8000000 in
set_option maxRecDepth 100000 in
theorem validSize_any (v : Value) (l : List CF) (w : World) (h : RCFs w v l) (hl : l.length ≤ 1048576) (hb : ∀ f ∈ l, BN f.body) :
    Calls Tryz.prog 79 #[v] w fun e w' => e = .returned (.bool (sizesC 30000 l)) ∧ Ext w w' := by
  have H := Lib.hid h; have HB := Lib.hid hb
  obtain ⟨A, c, rfl, -, -⟩ := h.form
  clear h hb
  go_enter Tryz.func79, Tryz.ntmps79
  go_wp2
  go_loopw [3, 10] (fun s i wr => ∃ (k : Nat) (left : Int), k ≤ l.length ∧ i = .int .i64 k ∧ s = .int .i64 left ∧ 0 ≤ left ∧ left ≤ 30000 ∧ sizesC 30000 l = sizesC left (l.drop k) ∧ Ext w wr) (fun _ i _ => l.length - (intOf i).toNat)
  case atStart => exact ⟨0, 30000, Nat.zero_le _, rfl, rfl, by decide, by decide, rfl, Ext.rf _⟩
  case round =>
    obtain ⟨k, left, hk, rfl, rfl, hl0, hl1, hd, hx⟩ := hrel
    have HD := Lib.hid hd; have HX := Lib.hid hx
    clear hd hx
    by_cases hlt : k < l.length
    · obtain ⟨b, o, vp, vv, xa, xb, kk, rfl, hbl, y0, y1, y2, yn, hnm, hps, hvs, hbody⟩ := H.out.at_ hlt
      have y0 := HX.out.keep y0
      have y1 := HX.out.keep y1
      have y2 := HX.out.keep y2
      obtain ⟨c0, c1, c2, c3, c4⟩ := yn.below HX.out
      have HBY := Lib.hid (hbody.cnt)
      obtain ⟨-, ⟨Ax, cx, rfl, -, -⟩, ⟨Bx, dx, rfl, -, -⟩⟩ := hbody.form
      obtain ⟨Ap, cp, rfl, -, -⟩ := hps.form
      obtain ⟨Av, cv, rfl, -, -⟩ := hvs.form
      have HST := Lib.hid (sizesC_step (left := left) hlt)
      have HBN := Lib.hid (HB.out _ (List.getElem_mem hlt))
      clear hps hvs hbody yn hnm
      generalize l[k] = x at *
      have HEX := Lib.hid (Ext.al wr (.cells #[.string x.nm, .slice Ap x.ps.length cp, .slice Av x.vars.length cv, .int .i64 x.body.op, .int .i64 x.body.n, .int .i64 x.body.ty, .slice Ax x.body.args.length cx, .slice Bx x.body.brs.length dx] 53))
      have HNX := Lib.hid (heapNew wr (.cells #[.string x.nm, .slice Ap x.ps.length cp, .slice Av x.vars.length cv, .int .i64 x.body.op, .int .i64 x.body.n, .int .i64 x.body.ty, .slice Ax x.body.args.length cx, .slice Bx x.body.brs.length dx] 53))
      have HCALL := Lib.hid (size_any left 4000 hl0 (by omega) (cntN x.body) x.body _ _ (wr.alloc (.cells #[.string x.nm, .slice Ap x.ps.length cp, .slice Av x.vars.length cv, .int .i64 x.body.op, .int .i64 x.body.n, .int .i64 x.body.ty, .slice Ax x.body.args.length cx, .slice Bx x.body.brs.length dx] 53)) (HBY.out.below (HX.out.tr HEX.out)) (by have := HBN.out.c; omega))
      have HLE := Lib.hid (sizeC_le (a := left) (b := 4000) (t := x.body) hl0)
      obtain ⟨⟨sz, q⟩, hsz⟩ : ∃ p, sizeC left 4000 x.body = p := ⟨_, rfl⟩
      rw [hsz] at HCALL HLE HST
      have hle := HLE.out
      dsimp only at hle
      clear hsz
      cases q
      · have HQ : Hid (sizesC 30000 l = false) := by show _ = _; rw [HD.out, HST.out]; rfl
        go_wp2_with (go_at_call 65; (with_reducible refine (HCALL.out).mono ?_); rintro e w5 ⟨rfl, hx5⟩)
        go_ret
        exact ⟨ret_bool HQ.out.symm, (HX.out.tr HEX.out).tr hx5⟩
      · go_wp2_with (go_at_call 65; (with_reducible refine (HCALL.out).mono ?_); rintro e w5 ⟨rfl, hx5⟩)
        exact ⟨⟨k + 1, left - sz, by omega, by go_num, by go_num, by omega, by omega, by rw [HD.out, HST.out]; rfl, (HX.out.tr HEX.out).tr hx5⟩, by simp [intOf]; omega⟩
    · have hkl : k = l.length := by omega
      subst hkl
      have HQ : Hid (sizesC 30000 l = true) := by show _ = _; rw [HD.out, List.drop_length]; rfl
      go_wp2
      go_ret
      exact ⟨ret_bool HQ.out.symm, HX.out⟩
end Go.Proofs.YtkdhhcidpklgoaaGreatDoor

/- core: the main function, a function as a branch. -/
namespace Go.Proofs.YtkdhhcidpklgoaaGreatDoor
open Go.RowKit Go.Shelf
attribute [local go_sem] Oper.semAt_some

set_option maxRecDepth 100000 in
theorem isMain1_any (a : Arg) (w : World) : Calls Tryz.prog 110 #[.agg #[.int .i64 a.ty, .bool a.co]] w fun e w' => e = .returned (.bool (!(decide (a.ty = 0) && !a.co))) ∧ Ext w w' := by
  obtain ⟨ty, co⟩ := a
  dsimp only
  by_cases h : ty = 0
  · subst h
    cases co
    all_goals
      go_enter Tryz.func110, Tryz.ntmps110
      go_wp2
      go_ret
      exact ⟨ret_bool (by first | rfl | decide), Ext.al _ _⟩
  · have h2 : (ty == 0) = false := by simpa using h
    have h3 : decide (ty = 0) = false := decide_eq_false h
    cases co
    all_goals
      go_enter Tryz.func110, Tryz.ntmps110
      go_wp2
      go_ret
      exact ⟨ret_bool (by first | rfl | (rw [h3]; rfl)), Ext.al _ _⟩
theorem all_drop {p : Arg → Bool} {l : List Arg} {k : Nat} (h : k < l.length) : (l.drop k).all p = (p l[k] && (l.drop (k + 1)).all p) := by
  rw [drop_step h]; rfl
set_option maxHeartbeats 4000000 in
set_option maxRecDepth 100000 in
theorem index_any (v : Value) (l : List Arg) (w : World) (h : RArgs w v l) (hl : l.length ≤ 1048576) :
    Calls Tryz.prog 132 #[v, .func (.func 110) #[] #[]] w fun e w' => (∃ i : Int, e = .returned (.int .i64 i) ∧ decide (0 ≤ i) = !(l.all fun a => decide (a.ty = 0) && !a.co)) ∧ Ext w w' := by
  have H := Lib.hid h
  obtain ⟨A, c, rfl, -, -⟩ := h.form
  clear h
  go_enter Tryz.func132, Tryz.ntmps132
  go_wp2
  go_loopw [8] (fun i wr => ∃ k : Nat, k ≤ l.length ∧ i = .int .i64 k ∧ (l.all fun a => decide (a.ty = 0) && !a.co) = ((l.drop k).all fun a => decide (a.ty = 0) && !a.co) ∧ Ext w wr) (fun i _ => l.length - (intOf i).toNat)
  case atStart => exact ⟨0, Nat.zero_le _, rfl, rfl, Ext.rf _⟩
  case round =>
    obtain ⟨k, hk, rfl, hd, hx⟩ := hrel
    have HD := Lib.hid hd; have HX := Lib.hid hx
    clear hd hx
    by_cases hlt : k < l.length
    · obtain ⟨b, o, rfl, hbl, y0, y1⟩ := H.out.at_ hlt
      have y0 := HX.out.keep y0
      have y1 := HX.out.keep y1
      have HST := Lib.hid (all_drop (p := fun a => decide (a.ty = 0) && !a.co) hlt)
      generalize l[k] = x at *
      have HM := Lib.hid (fun w => isMain1_any x w)
      cases hq : (decide (x.ty = 0) && !x.co)
      · have HQ : Hid ((l.all fun a => decide (a.ty = 0) && !a.co) = false) := by show _ = _; rw [HD.out, HST.out]; simp only [hq]; rfl
        rw [hq] at HM
        go_wp2_with (go_at_call 110; (with_reducible refine (HM.out _).mono ?_); rintro e w5 ⟨rfl, hx5⟩)
        go_ret
        exact ⟨⟨k, rfl, by rw [HQ.out]; simp⟩, HX.out.tr hx5⟩
      · rw [hq] at HM
        have HQ : Hid ((l.all fun a => decide (a.ty = 0) && !a.co) = ((l.drop (k + 1)).all fun a => decide (a.ty = 0) && !a.co)) := by show _ = _; rw [HD.out, HST.out]; simp only [hq]; rfl
        go_wp2_with (go_at_call 110; (with_reducible refine (HM.out _).mono ?_); rintro e w5 ⟨rfl, hx5⟩)
        exact ⟨⟨k + 1, by omega, by go_num, HQ.out, HX.out.tr hx5⟩, by simp [intOf]; omega⟩
    · have hkl : k = l.length := by omega
      subst hkl
      have HQ : Hid ((l.all fun a => decide (a.ty = 0) && !a.co) = true) := by show _ = _; rw [HD.out, List.drop_length]; rfl
      go_wp2
      go_ret
      exact ⟨⟨-1, rfl, by rw [HQ.out]; rfl⟩, HX.out⟩
set_option maxRecDepth 100000 in
theorem contains_any (v : Value) (l : List Arg) (w : World) (h : RArgs w v l) (hl : l.length ≤ 1048576) :
    Calls Tryz.prog 109 #[v, .func (.func 110) #[] #[]] w fun e w' => e = .returned (.bool !(l.all fun a => decide (a.ty = 0) && !a.co)) ∧ Ext w w' := by
  have HI := Lib.hid (index_any v l w h hl)
  clear h
  generalize (l.all fun a => decide (a.ty = 0) && !a.co) = q at *
  go_enter Tryz.func109, Tryz.ntmps109
  go_wp2_with (go_at_call 132; (with_reducible refine (HI.out).mono ?_); rintro e w5 ⟨⟨i, rfl, hi⟩, hx5⟩)
  go_ret
  exact ⟨ret_bool (by rw [← hi]), hx5⟩
set_option maxRecDepth 100000 in
theorem isMain_any (f : CF) (vp vv xa xb : Value) (w : World) (h : RArgs w vp f.ps) (hv : RInts w vv f.vars) (hl : f.ps.length ≤ 1048576) (hk : ∃ k, RNd w k f.body xa xb) :
    Calls Tryz.prog 78 #[fV f vp vv xa xb] w fun e w' => e = .returned (.bool (mainC f)) ∧ Ext w w' := by
  obtain ⟨k, hk⟩ := hk
  have HC := Lib.hid (fun w' (hx : Ext w w') => contains_any vp f.ps w' (h.below hx) hl)
  obtain ⟨-, ⟨Ax, cx, rfl, -, -⟩, ⟨Bx, dx, rfl, -, -⟩⟩ := hk.form
  obtain ⟨Ap, cp, rfl, -, -⟩ := h.form
  obtain ⟨Av, cv, rfl, -, -⟩ := hv.form
  have HM : Hid (mainC f = (f.ps.all fun a => decide (a.ty = 0) && !a.co)) := rfl
  clear h hv hk
  generalize (f.ps.all fun a => decide (a.ty = 0) && !a.co) = q at *
  go_enter Tryz.func78, Tryz.ntmps78
  go_wp2_with (go_at_call 109; (with_reducible refine (HC.out _ (Ext.al _ _)).mono ?_); rintro e w5 ⟨rfl, hx5⟩)
  go_ret
  exact ⟨ret_bool (by rw [HM.out]), (Ext.al _ _).tr hx5⟩
end Go.Proofs.YtkdhhcidpklgoaaGreatDoor

/- node: a function as a branch. -/
namespace Go.Proofs.YtkdhhcidpklgoaaGreatDoor
open Go.RowKit Go.Shelf
attribute [local go_sem] Oper.semAt_some

theorem Tryz.iBl : (Tryz.prog.info? 4).map (fun i => (i.zero, i.size, i.bytes)) = some (some (.bool false), 1, 1) := by kernel_rfl
theorem own_bools {w : World} {B : Nat} {v : Value} {l : List Bool} {e : TypeId} (h : w.ownsRow B e 1 v l.length (l.map Value.bool)) : RBools w v l := by
  rcases h.2 with ⟨rfl, h0⟩ | ⟨g, cap, cur, rfl, e2, e3, e4, e5, e6, e7⟩
  · have hL : l = [] := List.eq_nil_of_length_eq_zero h0
    subst hL
    exact ⟨none, 0, rfl, Nat.le_refl _, Nat.zero_le _, fun i x hx => by simp at hx⟩
  · refine ⟨_, cap, rfl, e4, e5, fun i x hx => ?_⟩
    have hi : i < l.length := (List.getElem?_eq_some_iff.1 hx).1
    refine ⟨g, 0, rfl, (Array.getElem?_eq_some_iff.1 e3).1, ?_⟩
    rw [Nat.zero_add, World.ownsRow.cellAt h i (by omega), List.getElem?_map, hx]; rfl
set_option maxHeartbeats 8000000 in
set_option maxRecDepth 100000 in
theorem asBranch_any (f : CF) (vp vv xa xb : Value) (w : World) (h : RArgs w vp f.ps) (hv : RInts w vv f.vars) (hl : f.ps.length ≤ 1048576) (hk : ∃ k, RNd w k f.body xa xb) :
    Calls Tryz.prog 51 #[fV f vp vv xa xb] w fun e w' => (∃ vc, e = .returned (brV vv vc f.body xa xb) ∧ RBools w' vc (f.ps.map Arg.co)) ∧ Ext w w' := by
  obtain ⟨k, hk⟩ := hk
  have H := Lib.hid h
  obtain ⟨-, ⟨Ax, cx, rfl, -, -⟩, ⟨Bx, dx, rfl, -, -⟩⟩ := hk.form
  obtain ⟨Ap, cp, rfl, -, hmp⟩ := h.form
  obtain ⟨Av, cv, rfl, -, -⟩ := hv.form
  clear h hv hk
  obtain ⟨w3, hw3⟩ : ∃ w3, w3 = ((w.alloc (.cells #[.string f.nm, .slice Ap f.ps.length cp, .slice Av f.vars.length cv, .int .i64 f.body.op, .int .i64 f.body.n, .int .i64 f.body.ty, .slice Ax f.body.args.length cx, .slice Bx f.body.brs.length dx] 53)).alloc (.cells #[.slice none 0 0, .slice none 0 0, .int .i64 0, .int .i64 0, .int .i64 0, .slice none 0 0, .slice none 0 0] 97)).alloc (.cells #[.slice Av f.vars.length cv, .slice none 0 0, .int .i64 f.body.op, .int .i64 f.body.n, .int .i64 f.body.ty, .slice Ax f.body.args.length cx, .slice Bx f.body.brs.length dx] 97) := ⟨_, rfl⟩
  have HE3 : Hid (Ext w w3) := by show Ext w w3; rw [hw3]; exact ((Ext.al _ _).tr (Ext.al _ _)).tr (Ext.al _ _)
  have hz3 : w3.heap.size = w.heap.size + 3 := by rw [hw3]; simp
  have HF3 : Hid (w3.heap[w.heap.size]? = some (.cells #[.string f.nm, .slice Ap f.ps.length cp, .slice Av f.vars.length cv, .int .i64 f.body.op, .int .i64 f.body.n, .int .i64 f.body.ty, .slice Ax f.body.args.length cx, .slice Bx f.body.brs.length dx] 53 (0, 0))) := by
    show _ = _; rw [hw3]; exact Ext.lt (Ext.al2 _ _ _) (heapNew w _)
  have HR3 : Hid (w3.heap[w.heap.size + 1]? = some (.cells #[.slice none 0 0, .slice none 0 0, .int .i64 0, .int .i64 0, .int .i64 0, .slice none 0 0, .slice none 0 0] 97 (0, 0))) := by
    show _ = _; rw [hw3]; exact Ext.lt (Ext.al _ _) (heapNew2 w _ _)
  have HB3 : Hid (w3.heap[w.heap.size + 1 + 1]? = some (.cells #[.slice Av f.vars.length cv, .slice none 0 0, .int .i64 f.body.op, .int .i64 f.body.n, .int .i64 f.body.ty, .slice Ax f.body.args.length cx, .slice Bx f.body.brs.length dx] 97 (0, 0))) := by
    show _ = _; rw [hw3]; exact heapNew3 w _ _ _
  go_enter Tryz.func51, Tryz.ntmps51
  go_wp2
  rw [← hw3]
  clear hw3
  go_loopw [14] (fun i wr => ∃ (k : Nat) (Ac : Option Addr) (cc : Nat), k ≤ f.ps.length ∧ i = .int .i64 k ∧ wr.heap[w.heap.size + 1 + 1]? = some (.cells #[.slice Av f.vars.length cv, .slice Ac k cc, .int .i64 f.body.op, .int .i64 f.body.n, .int .i64 f.body.ty, .slice Ax f.body.args.length cx, .slice Bx f.body.brs.length dx] 97 (0, 0)) ∧ wr.ownsRow w3.heap.size 4 1 (.slice Ac k cc) k ((f.ps.take k).map fun a => Value.bool a.co) ∧ Only (fun j => j = w.heap.size + 1 + 1) w3 wr) (fun i _ => f.ps.length - (intOf i).toNat)
  case atStart => exact ⟨0, none, 0, Nat.zero_le _, rfl, HB3.out, own_nil', Only.rf _ _⟩
  case round =>
    obtain ⟨k, Ac, cc, hk, rfl, hb, hown, ho⟩ := hrel
    have HB := Lib.hid hb; have HOW := Lib.hid hown; have HO := Lib.hid ho
    have hX : Ext w wr := HE3.out.trans (ho.below HE3.out.size (fun j h => by omega))
    have HX := Lib.hid hX
    have hzr := ho.size
    clear hb hown ho hX
    by_cases hlt : k < f.ps.length
    · obtain ⟨b, o, rfl, hbl, y0, y1⟩ := H.out.at_ hlt
      have y0 := HX.out.keep y0
      have y1 := HX.out.keep y1
      have HS : Hid (f.ps.take (k + 1) = f.ps.take k ++ [f.ps[k]]) := List.take_succ_eq_append_getElem hlt
      generalize f.ps[k] = a at *
      have HB1 := Lib.hid (Ext.lt (Ext.al2 wr (.cells #[.int .i64 a.ty, .bool a.co] 114) (.cells #[.bool a.co] 4)) HB.out)
      have m1 := cellAt (Ext.lt (Ext.al wr (.cells #[.int .i64 a.ty, .bool a.co] 114)) HB.out) 1
      have m1' := cellAt HB1.out 1
      have hob : ∀ g, (Value.slice Ac k cc).ownBlock = some g → w3.heap.size ≤ g := fun g h => by obtain ⟨_, _, _, h2⟩ := own_shape HOW.out; exact (h2 g h).1
      go_wp2_with (at_builtin; refine wpl_app (t := 95) (e := 4) (size := 1) (bytes := 1) Tryz.underlying95 Tryz.iBl rfl (by decide) (by decide) rfl (.tmp 19) (.tmp 22) rfl w3.heap.size _ k _ rfl (own_below HOW.out (Ext.al2 _ _ _)) _ 1 1 [.bool a.co] rfl (src_one (heapNew2 _ _ _)) (one_mem rfl) (by omega) (Nat.le_trans hzr (by simp; try omega)) ?_; rintro v' w' ho' hg' -; obtain ⟨A9, c9, rfl, hg9⟩ := own_shape ho'; have HB9 := Lib.hid (grow_at hg' HB1.out (fun g h => by have := hob g h; omega)); have k1 := cellAt HB9.out 1; have g1 := frozenAt HB9.out 1; have HG' := Lib.hid hg'; have HOW' := Lib.hid ho'; clear hg' ho')
      have HO9 : Hid (Only (fun j => j = w.heap.size + 1 + 1) w3 w') := Only.grow (HO.out.tr (Only.of_ext (Ext.al2 wr (.cells #[.int .i64 a.ty, .bool a.co] 114) (.cells #[.bool a.co] 4)))) HG'.out hob
      exact ⟨⟨k + 1, A9, c9, by omega, by go_num, blk_set HB9.out 1 _, by rw [HS.out, List.map_append]; exact own_only HOW'.out (Only.setCell (C := fun b => b = w.heap.size + 1 + 1) (p := ⟨w.heap.size + 1 + 1, 1, none⟩) rfl _ _) (fun g h => by have := (hg9 g h).1; omega), HO9.out.tr (Only.setCell (C := fun j => j = w.heap.size + 1 + 1) (p := ⟨w.heap.size + 1 + 1, 1, none⟩) rfl _ _)⟩, by simp [intOf]; omega⟩
    · have hkl : k = f.ps.length := by omega
      have HK : Hid (f.ps.take k = f.ps) := List.take_of_length_le (by omega)
      subst hkl
      have HR := Lib.hid (HO.out.lt HR3.out (by omega))
      have m0 := cellAt HB.out 0
      have m1 := cellAt HB.out 1
      have m2 := cellAt HB.out 2
      have m3 := cellAt HB.out 3
      have m4 := cellAt HB.out 4
      have m5 := cellAt HB.out 5
      have m6 := cellAt HB.out 6
      have r0 := cellAt HR.out 0
      have r1 := cellAt HR.out 1
      have r2 := cellAt HR.out 2
      have r3 := cellAt HR.out 3
      have r4 := cellAt HR.out 4
      have r5 := cellAt HR.out 5
      have r6 := cellAt HR.out 6
      have f0 := frozenAt HR.out 0
      have f1 := frozenAt HR.out 1
      have f2 := frozenAt HR.out 2
      have f3 := frozenAt HR.out 3
      have f4 := frozenAt HR.out 4
      have f5 := frozenAt HR.out 5
      have f6 := frozenAt HR.out 6
      go_wp2
      have hfin := blk_set (blk_set (blk_set (blk_set (blk_set (blk_set (blk_set HR.out 0 (.slice Av f.vars.length cv)) 1 (.slice Ac f.ps.length cc)) 2 (.int .i64 f.body.op)) 3 (.int .i64 f.body.n)) 4 (.int .i64 f.body.ty)) 5 (.slice Ax f.body.args.length cx)) 6 (.slice Bx f.body.brs.length dx)
      have hbel : Ext w (((((((wr.setCell ⟨w.heap.size + 1, 0, none⟩ (.slice Av f.vars.length cv)).setCell ⟨w.heap.size + 1, 1, none⟩ (.slice Ac f.ps.length cc)).setCell ⟨w.heap.size + 1, 2, none⟩ (.int .i64 f.body.op)).setCell ⟨w.heap.size + 1, 3, none⟩ (.int .i64 f.body.n)).setCell ⟨w.heap.size + 1, 4, none⟩ (.int .i64 f.body.ty)).setCell ⟨w.heap.size + 1, 5, none⟩ (.slice Ax f.body.args.length cx)).setCell ⟨w.heap.size + 1, 6, none⟩ (.slice Bx f.body.brs.length dx)) :=
        Below.setNew (Below.setNew (Below.setNew (Below.setNew (Below.setNew (Below.setNew (Below.setNew HX.out (by omega) _) (by omega) _) (by omega) _) (by omega) _) (by omega) _) (by omega) _) (by omega) _
      have hown7 : World.ownsRow (((((((wr.setCell ⟨w.heap.size + 1, 0, none⟩ (.slice Av f.vars.length cv)).setCell ⟨w.heap.size + 1, 1, none⟩ (.slice Ac f.ps.length cc)).setCell ⟨w.heap.size + 1, 2, none⟩ (.int .i64 f.body.op)).setCell ⟨w.heap.size + 1, 3, none⟩ (.int .i64 f.body.n)).setCell ⟨w.heap.size + 1, 4, none⟩ (.int .i64 f.body.ty)).setCell ⟨w.heap.size + 1, 5, none⟩ (.slice Ax f.body.args.length cx)).setCell ⟨w.heap.size + 1, 6, none⟩ (.slice Bx f.body.brs.length dx)) w3.heap.size 4 1 (.slice Ac f.ps.length cc) f.ps.length ((f.ps.take f.ps.length).map fun a => Value.bool a.co) := by
        have hs : ∀ (W : World) i v, Only (fun b => b = w.heap.size + 1) W (W.setCell ⟨w.heap.size + 1, i, none⟩ v) := fun W i v => Only.setCell (C := fun b => b = w.heap.size + 1) (p := ⟨w.heap.size + 1, i, none⟩) rfl W v
        refine own_only HOW.out (((((((hs _ 0 _).tr (hs _ 1 _)).tr (hs _ 2 _)).tr (hs _ 3 _)).tr (hs _ 4 _)).tr (hs _ 5 _)).tr (hs _ 6 _)) (fun g h => ?_)
        obtain ⟨_, _, _, h2⟩ := own_shape HOW.out
        have := (h2 g h).1
        omega
      have hBL : RBools _ _ (f.ps.map Arg.co) := own_bools (B := w3.heap.size) (e := 4) (by rw [List.length_map, List.map_map]; rw [HK.out] at hown7; exact hown7)
      generalize ((((((wr.setCell _ _).setCell _ _).setCell _ _).setCell _ _).setCell _ _).setCell _ _).setCell _ _ = w9 at *
      have k0 := cellAt hfin 0
      have k1 := cellAt hfin 1
      have k2 := cellAt hfin 2
      have k3 := cellAt hfin 3
      have k4 := cellAt hfin 4
      have k5 := cellAt hfin 5
      have k6 := cellAt hfin 6
      exact bodyPost_ret (v := brV (.slice Av f.vars.length cv) (.slice Ac f.ps.length cc) f.body (.slice Ax f.body.args.length cx) (.slice Bx f.body.brs.length dx)) (by simp [results, Tryz.results51, go_sem, k0, k1, k2, k3, k4, k5, k6]) rfl ⟨⟨_, rfl, hBL⟩, hbel⟩
end Go.Proofs.YtkdhhcidpklgoaaGreatDoor
