/- visit.go: child, of any position. -/
import Derived.Test.YtogmjgccopmplaaGreatQ24
import Derived.Carry
import Derived.MapKept
import Derived.Laws.StructEq
namespace Go.Proofs.YtogmjgccopmplaaGreat
open Go.RowKit

theorem clsB_nth : ∀ (cls : List (List Str × Tm)) (xs : List Xtor) (n : Nat) (c : List Str × Tm), clsB xs cls = true → cls[n]? = some c → (c.1.length : Int) = prodI (xs.getD n noXtor)
  | [], _, _, _, _, h => by simp at h
  | c :: r, xs, 0, c', h, hc => by
    simp at hc; subst hc
    simp only [clsB, Bool.and_eq_true, decide_eq_true_eq] at h
    rw [h.1]; cases xs <;> rfl
  | c :: r, xs, n + 1, c', h, hc => by
    simp only [clsB, Bool.and_eq_true, decide_eq_true_eq] at h
    rw [List.getElem?_cons_succ] at hc
    rw [clsB_nth r xs.tail n c' h.2 hc]
    cases xs <;> simp
theorem fits_clause {P : Pg} {t : Tm} (hf : fitsT P t = true) {n : Nat} {c : List Str × Tm} (hc : t.cls[n]? = some c) :
    ∃ u d x, t.ty = ((u + 1 : Nat) : Int) ∧ P.decls[u]? = some d ∧ declAt P t.ty = d ∧ d.xtors[n]? = some x ∧ c.1.length = (prodL x).length := by
  have hn : n < t.cls.length := (List.getElem?_eq_some_iff.1 hc).1
  have key : ∀ (co : Bool) (na : Int), isDeclB P t.ty co = true → fitsCB P t na = true → ∃ u d x, t.ty = ((u + 1 : Nat) : Int) ∧ P.decls[u]? = some d ∧ declAt P t.ty = d ∧ d.xtors[n]? = some x ∧ c.1.length = (prodL x).length := by
    intro co na h1 h2
    obtain ⟨u, d, hty, hd, hda, hco⟩ := decl_in h1
    unfold fitsCB at h2
    rw [hda] at h2
    simp only [Bool.and_eq_true] at h2
    have hl := (hasF_len h2.1).2
    have hnx : n < d.xtors.length := by omega
    refine ⟨u, d, d.xtors[n], hty, hd, hda, List.getElem?_eq_getElem hnx, ?_⟩
    have := clsB_nth _ _ n c h2.2 hc
    rw [List.getD_eq_getElem?_getD, List.getElem?_eq_getElem hnx] at this
    unfold prodI at this
    unfold prodL
    rw [List.length_map]
    have this : (c.1.length : Int) = ((List.filter (fun a => !a.co) (d.xtors[n]).args).length : Int) := this
    exact Int.ofNat.inj this
  obtain ⟨o, ho, ho2⟩ := fits_op hf
  unfold fitsT at hf
  rw [ho] at hf
  match o, ho2 with
  | 0, _ => simp at hf; have := (hasF_len hf).2; omega
  | 1, _ => simp at hf; have := (hasF_len hf).2; omega
  | 2, _ => simp at hf; have := (hasF_len hf.1.1).2; omega
  | 3, _ => simp at hf; have := (hasF_len hf).2; omega
  | 4, _ =>
    simp at hf
    have h := hf.2
    unfold fitsXB at h
    simp only [Bool.and_eq_true] at h
    have := (hasF_len h.2).2; omega
  | 5, _ => simp at hf; exact key _ _ hf.1 hf.2
  | 6, _ =>
    simp at hf
    have h := hf.2
    unfold fitsXB at h
    simp only [Bool.and_eq_true] at h
    have := (hasF_len h.2).2; omega
  | 7, _ => simp at hf; exact key _ _ hf.1 hf.2
  | 8, _ => simp at hf; have := (hasF_len hf.1).2; omega
  | 9, _ => simp at hf; have := (hasF_len hf.2).2; omega
  | 10, _ => simp at hf; have := (hasF_len hf).2; omega
  | 11, _ => simp at hf; have := (hasF_len hf.1).2; omega
  | 12, _ => simp at hf; have := (hasF_len hf.1).2; omega

theorem child_any (gc : Nat) (P : Pg) (V L : Env) (pv pl : Value) (k : Nat) (t : Tm) (ux uc : Value) (i : Nat) (w : World) (hV : RB w V pv) (hL : RB w L pl) (ht : RT w (k + 1) t ux uc) (hk : RCk w gc P) (hf : fitsT P t = true) (hB : PB P) (hlt : i < t.args.length + t.cls.length) (hsz : t.args.length + t.cls.length ≤ 1000000000) :
    Calls Tryz.prog 67 #[.pointer (some ⟨gc, 0, none⟩), scV pv pl, tV t ux uc, .int .i64 i] w fun e w' =>
      (∃ xa xc qv ql, e = .returned (.tuple #[tV (kidT t i) xa xc, scV qv ql]) ∧ RT w' k (kidT t i) xa xc ∧ RB w' (kidE P V L t i).1 qv ∧ RB w' (kidE P V L t i).2 ql) ∧ Ext w w' := by
  by_cases hi : i < t.args.length
  · exact childA_any gc P V L pv pl k t ux uc i w hV hL ht hk hi
  · obtain ⟨n, rfl⟩ : ∃ n, i = t.args.length + n := ⟨i - t.args.length, by omega⟩
    obtain ⟨cl, hcl⟩ : ∃ cl, t.cls[n]? = some cl := ⟨_, List.getElem?_eq_getElem (by omega)⟩
    obtain ⟨u, d, x, hty, hd, hda, hx, hcx⟩ := fits_clause hf hcl
    have h := childC_any gc P V L pv pl k t ux uc ((t.args.length + n : Nat) : Int) n cl u d x w hV hL ht hk rfl hcl hty hd hx hcx hB.dl (hB.xl u d hd).1 hsz
    have e1 : kidT t (t.args.length + n) = cl.2 := by
      unfold kidT; rw [if_neg hi, Nat.add_sub_cancel_left, List.getD_eq_getElem?_getD, hcl]; rfl
    have e2 : kidE P V L t (t.args.length + n) = (bindE cl.1 (prodL x) V, L) := by
      unfold kidE; rw [if_neg hi, Nat.add_sub_cancel_left, List.getD_eq_getElem?_getD, hcl, hda, List.getD_eq_getElem?_getD, hx]; rfl
    rw [e1, e2]
    exact h

/-! ### validity of the parts -/
def Vld (P : Pg) (t : Tm) : Prop := ∃ V L, validT P V L t = true
theorem Vld.fits {P : Pg} {t : Tm} (h : Vld P t) : fitsT P t = true := by
  obtain ⟨V, L, h⟩ := h
  rw [validT_kids] at h
  simp only [Bool.and_eq_true] at h
  exact h.1.1
theorem kid_mem {t : Tm} {i : Nat} (hi : i < t.args.length + t.cls.length) : ∃ x ∈ kids t, x.2 = kidT t i := by
  unfold kids kidT
  by_cases h : i < t.args.length
  · have hg := kidsFrom_get t.op t.nm t.args 0 i _ (List.getElem?_eq_getElem h)
    refine ⟨_, List.mem_append_left _ (List.mem_of_getElem? hg), ?_⟩
    rw [if_pos h, List.getD_eq_getElem?_getD, List.getElem?_eq_getElem h]; rfl
  · have hn : i - t.args.length < t.cls.length := by omega
    refine ⟨(((t.cls[i - t.args.length]).1, false), (t.cls[i - t.args.length]).2), List.mem_append_right _ (List.mem_map.2 ⟨_, List.getElem_mem hn, rfl⟩), ?_⟩
    rw [if_neg h, List.getD_eq_getElem?_getD, List.getElem?_eq_getElem hn]; rfl
theorem Vld.kid {P : Pg} {t : Tm} (h : Vld P t) {i : Nat} (hi : i < t.args.length + t.cls.length) : Vld P (kidT t i) := by
  obtain ⟨V, L, h⟩ := h
  rw [validT_kids] at h
  simp only [Bool.and_eq_true, List.all_eq_true] at h
  obtain ⟨x, hx, e⟩ := kid_mem hi
  have := h.2 x hx
  unfold validK at this
  simp only [Bool.and_eq_true] at this
  rw [← e]
  exact ⟨_, _, this.2⟩
end Go.Proofs.YtogmjgccopmplaaGreat

/- A set of strings, kept as a map to bools: look-up and store. -/
namespace Go.Proofs.YtogmjgccopmplaaGreat
open Go.RowKit

def SetAt (w : World) (b : Nat) (S : List ByteArray) : Prop :=
  ∃ es clock, w.heap[b]? = some (.map es clock) ∧ es.toList.map MapEntry.key = S.map Value.string ∧ ∀ e ∈ es.toList, e.val = .bool true


theorem findNow_set (k : ByteArray) : ∀ (es : List MapEntry) (S : List ByteArray) (i : Nat), es.map MapEntry.key = S.map Value.string → (∀ e ∈ es, e.val = .bool true) →
    (hasS S k = true → ∃ j, Instr.findNow .string (.string k) es i = some (some (j, .bool true))) ∧ (hasS S k = false → Instr.findNow .string (.string k) es i = some none)
  | [], [], i, _, _ => ⟨fun h => by simp [hasS] at h, fun _ => rfl⟩
  | [], _ :: _, i, h, _ => by simp at h
  | _ :: _, [], i, h, _ => by simp at h
  | e :: es, s :: S, i, h, hv => by
    simp only [List.map_cons, List.cons.injEq] at h
    obtain ⟨h1, h2⟩ := h
    have ih := findNow_set k es S (i + 1) h2 (fun e he => hv e (List.mem_cons_of_mem _ he))
    have hval := hv e (List.mem_cons_self ..)
    have hh : hasS (s :: S) k = ((k.toList == s.toList) || hasS S k) := rfl
    unfold Instr.findNow
    rw [h1, hh]
    simp only [Instr.sameNow, beq_toListBytes]
    cases hk : (k.toList == s.toList)
    · simpa using ih
    · simp [hval]

theorem run_lookup_set (t : TypeId) (kt vt : TypeId) (P : Program) (ht : P.underlying t = some (.map kt vt)) (hk : P.underlying kt = some .string) (w : World) (hz : (zeroValue vt).run P w = .ok (.bool false) w)
    (b : Nat) (S : List ByteArray) (h : SetAt w b S) (k : ByteArray) :
    (Instr.lookup t (.map (some b)) (.string k) false).run P w = .ok (.bool (hasS S k)) w := by
  obtain ⟨es, clock, hb, hkeys, hv⟩ := h
  obtain ⟨f1, f2⟩ := findNow_set k es.toList S 0 hkeys hv
  have hkey : MapKept.IsKey .string (.string k) := by simp [MapKept.IsKey]
  cases hc : hasS S k
  · have hf := f2 hc
    simp [Instr.lookup, run_underlying ht, MapKept.run_getObj_map hb, MapKept.run_checkKey hk hkey, MapKept.run_findKey hk hf, Result.andThen, hz]
  · obtain ⟨j, hf⟩ := f1 hc
    simp [Instr.lookup, run_underlying ht, MapKept.run_getObj_map hb, MapKept.run_checkKey hk hkey, MapKept.run_findKey hk hf, Result.andThen]

theorem run_update_set (t : TypeId) (kt vt : TypeId) (P : Program) (ht : P.underlying t = some (.map kt vt)) (hk : P.underlying kt = some .string) (w : World)
    (b : Nat) (S : List ByteArray) (h : SetAt w b S) (k : ByteArray) (hn : hasS S k = false) :
    ∃ w', (Instr.mapUpdate t (.map (some b)) (.string k) (.bool true)).run P w = .ok () w' ∧ SetAt w' b (S ++ [k]) ∧ Below b w w' ∧ (∀ j, j ≠ b → w'.heap[j]? = w.heap[j]?) ∧ w'.heap.size = w.heap.size := by
  obtain ⟨es, clock, hb, hkeys, hv⟩ := h
  obtain ⟨f1, f2⟩ := findNow_set k es.toList S 0 hkeys hv
  have hf := f2 hn
  have hlt : b < w.heap.size := (Array.getElem?_eq_some_iff.1 hb).1
  have hkey : MapKept.IsKey .string (.string k) := by simp [MapKept.IsKey]
  refine ⟨{ w with heap := w.heap.setIfInBounds b (.map (es.push { key := .string k, val := .bool true, born := clock }) (clock + 1)) }, ?_, ⟨es.push { key := .string k, val := .bool true, born := clock }, clock + 1, ?_, ?_, ?_⟩, ?_, ?_, ?_⟩
  · simp [Instr.mapUpdate, run_underlying ht, MapKept.run_getObj_map hb, MapKept.run_checkKey hk hkey, MapKept.run_findKey hk hf, MapKept.run_setObj_map _ hb, Result.andThen]
  · simp [hlt]
  · simp [hkeys]
  · intro e he
    simp at he
    rcases he with he | rfl
    · exact hv e (by simpa using he)
    · rfl
  · exact ⟨rfl, rfl, rfl, by simp, fun j hj => by simp [Array.getElem?_setIfInBounds]; omega⟩
  · intro j hj
    simp [Array.getElem?_setIfInBounds]
    omega
  · simp

theorem SetAt.new (w : World) : SetAt (w.alloc (.map #[] 0)) w.heap.size [] := ⟨#[], 0, (MapKept.heap_alloc w _).1, rfl, by simp⟩
theorem SetAt.lt {w : World} {b : Nat} {S : List ByteArray} (h : SetAt w b S) : b < w.heap.size := by
  obtain ⟨es, clock, hb, _⟩ := h
  exact (Array.getElem?_eq_some_iff.1 hb).1
theorem SetAt.ext {w w' : World} {b : Nat} {S : List ByteArray} (h : SetAt w b S) (hb : Ext w w') : SetAt w' b S := by
  have hlt := h.lt
  obtain ⟨es, clock, he, h1, h2⟩ := h
  exact ⟨es, clock, (hb.block b hlt).trans he, h1, h2⟩

/-- All that was there is as it was, but for block b. -/
structure ExtBut (b : Nat) (w w' : World) : Prop where
  os : w'.os = w.os
  tape : w'.tape = w.tape
  output : w'.output = w.output
  size : w.heap.size ≤ w'.heap.size
  block : ∀ k, k < w.heap.size → k ≠ b → w'.heap[k]? = w.heap[k]?
theorem ExtBut.rf (b : Nat) (w : World) : ExtBut b w w := ⟨rfl, rfl, rfl, Nat.le_refl _, fun _ _ _ => rfl⟩
theorem Ext.but {w w' : World} (h : Ext w w') (b : Nat) : ExtBut b w w' := ⟨h.os, h.tape, h.output, h.size, fun k hk _ => h.block k hk⟩
theorem ExtBut.tr {b : Nat} {w1 w2 w3 : World} (h : ExtBut b w1 w2) (k : ExtBut b w2 w3) : ExtBut b w1 w3 :=
  ⟨k.os.trans h.os, k.tape.trans h.tape, k.output.trans h.output, Nat.le_trans h.size k.size, fun i hi hn => (k.block i (Nat.lt_of_lt_of_le hi h.size) hn).trans (h.block i hi hn)⟩
theorem ExtBut.below {b : Nat} {w w' : World} (h : ExtBut b w w') (hb : b ≤ w.heap.size) : Below b w w' :=
  ⟨h.os, h.tape, h.output, h.size, fun k hk => h.block k (by omega) (by omega)⟩
theorem ExtBut.cell {b : Nat} {w w' : World} (h : ExtBut b w w') {p : Addr} {v : Value} (hv : w.cell? p = some v) (hp : p.block ≠ b) : w'.cell? p = some v :=
  (World.cell?_of_block (w := w) (h.block p.block (cell_lt hv) hp)).trans hv
theorem set_ne_cell {w : World} {b : Nat} {S : List ByteArray} (h : SetAt w b S) {p : Addr} {v : Value} (hv : w.cell? p = some v) : p.block ≠ b := by
  obtain ⟨es, clock, he, _⟩ := h
  rintro rfl
  unfold World.cell? at hv
  rw [he] at hv
  cases hv
/-- A cell is no place of the set's. -/
theorem ExtBut.keep {b : Nat} {w w' : World} {S : List ByteArray} (h : ExtBut b w w') (hs : SetAt w b S) {p : Addr} {v : Value} (hv : w.cell? p = some v) : w'.cell? p = some v :=
  h.cell hv (set_ne_cell hs hv)
section
variable {w w' : World} {v : Value} {b : Nat} {S : List ByteArray}
theorem RArgs.but {l : List Arg} (h : RArgs w v l) (hb : ExtBut b w w') (hs : SetAt w b S) : RArgs w' v l := by
  obtain ⟨A, c, rfl, h1, h2, h3⟩ := h
  refine ⟨A, c, rfl, h1, h2, fun i a hi => ?_⟩
  obtain ⟨b, o, rfl, hlt, h4, h5⟩ := h3 i a hi
  exact ⟨b, o, rfl, Nat.lt_of_lt_of_le hlt hb.size, hb.keep hs h4, hb.keep hs h5⟩
theorem RXtors.but {l : List Xtor} (h : RXtors w v l) (hb : ExtBut b w w') (hs : SetAt w b S) : RXtors w' v l := by
  obtain ⟨A, c, rfl, h1, h2, h3⟩ := h
  refine ⟨A, c, rfl, h1, h2, fun i a hi => ?_⟩
  obtain ⟨b, o, va, rfl, hlt, h4, h5, h6, h7⟩ := h3 i a hi
  exact ⟨b, o, va, rfl, Nat.lt_of_lt_of_le hlt hb.size, hb.keep hs h4, hb.keep hs h5, h6.but hb hs, h7⟩
theorem RDecls.but {l : List Decl} (h : RDecls w v l) (hb : ExtBut b w w') (hs : SetAt w b S) : RDecls w' v l := by
  obtain ⟨A, c, rfl, h1, h2, h3⟩ := h
  refine ⟨A, c, rfl, h1, h2, fun i a hi => ?_⟩
  obtain ⟨b, o, va, rfl, hlt, h4, h5, h6, h7, h8⟩ := h3 i a hi
  exact ⟨b, o, va, rfl, Nat.lt_of_lt_of_le hlt hb.size, hb.keep hs h4, hb.keep hs h5, hb.keep hs h6, h7.but hb hs, h8⟩
end

set_option maxRecDepth 100000 in
/-- 'nameSet.add': new names are added and told. -/
theorem add_any (b : Nat) (S : List ByteArray) (k : ByteArray) (w : World) (h : SetAt w b S) :
    Calls Tryz.prog 152 #[.map (some b), .string k] w fun e w' => e = .returned (.bool (!hasS S k)) ∧ SetAt w' b (if hasS S k then S else S ++ [k]) ∧ ExtBut b w w' := by
  have hz : (zeroValue 4).run Tryz.prog w = .ok (.bool false) w := by kernel_rfl
  have hl := run_lookup_set 194 9 4 Tryz.prog Tryz.underlying194 Tryz.underlying9 w hz b S h k
  have HA := Lib.hid h
  clear h
  cases hc : hasS S k
  · rw [hc] at hl
    obtain ⟨w1, hu, hs, hb1, hoth, hsz⟩ := run_update_set 194 9 4 Tryz.prog Tryz.underlying194 Tryz.underlying9 w b S HA.out k hc
    have HS := Lib.hid hs; clear hs
    have HX : Hid (ExtBut b w w1) := ⟨hb1.os, hb1.tape, hb1.output, hb1.size, fun k _ hk => hoth k hk⟩
    clear hb1 hoth hsz hc hz
    go_enter Tryz.func152, Tryz.ntmps152
    go_wp2
    go_ret
    exact ⟨rfl, HS.out, HX.out⟩
  · rw [hc] at hl
    clear hc
    go_enter Tryz.func152, Tryz.ntmps152
    go_wp2
    go_ret
    exact ⟨rfl, HA.out, ExtBut.rf _ _⟩
end Go.Proofs.YtogmjgccopmplaaGreat

namespace Go.Proofs.YtogmjgccopmplaaGreat
open Go.RowKit

theorem okX_bad1 {t : Int} {S : List ByteArray} {x : Xtor} (h : xtorB x.name = false) : okX t S x = false := by simp [okX, h]
theorem okX_bad2 {t : Int} {S : List ByteArray} {x : Xtor} (h : hasS S x.name = true) : okX t S x = false := by simp [okX, h]
theorem okX_bad3 {t : Int} {S : List ByteArray} {x : Xtor} (h : ¬ x.args.length ≤ 6) : okX t S x = false := by simp [okX, h]
theorem okX_good {t : Int} {S : List ByteArray} {x : Xtor} (h1 : xtorB x.name = true) (h2 : hasS S x.name = false) (h3 : x.args.length ≤ 6) : okX t S x = x.args.all (okTy t) := by simp [okX, h1, h2, h3]
theorem okTy_bad {t : Int} {a : Arg} (h : a.ty < 0 ∨ t < a.ty) : okTy t a = false := by simp [okTy]; omega
theorem okTy_good {t : Int} {a : Arg} (h : 0 ≤ a.ty) (h2 : a.ty ≤ t) : okTy t a = true := by simp [okTy]; omega

/-- What a check answers, and what becomes of the set. -/
structure VPost (b : Nat) (r : Bool) (S : List ByteArray) (w : World) (e : Ending) (w' : World) : Prop where
  ret : e = .returned (.bool r)
  yes : r = true → SetAt w' b S
  any : ∃ S', SetAt w' b S'
  ext : ExtBut b w w'
theorem VPost.no {b : Nat} {r : Bool} {S S' : List ByteArray} {w w' : World} (h : r = false) (hs : SetAt w' b S') (hx : ExtBut b w w') : VPost b r S w (.returned (.bool false)) w' :=
  ⟨by rw [h], (fun e => by rw [h] at e; cases e), ⟨S', hs⟩, hx⟩
theorem VPost.yes_ {b : Nat} {r : Bool} {S : List ByteArray} {w w' : World} (h : r = true) (hs : SetAt w' b S) (hx : ExtBut b w w') : VPost b r S w (.returned (.bool true)) w' :=
  ⟨by rw [h], fun _ => hs, ⟨S, hs⟩, hx⟩

theorem validXtor_any (b : Nat) (S : List ByteArray) (va : Value) (x : Xtor) (t : Int) (w : World) (hs : SetAt w b S) (hx : RArgs w va x.args) (hn : x.name.size ≤ maxLen) :
    Calls Tryz.prog 153 #[.agg #[.string x.name, va], .int .i64 t, .map (some b)] w (VPost b (okX t S x) (S ++ [x.name]) w) := by
  have HB1 := Lib.hid (@okX_bad1 t S x)
  have HB2 := Lib.hid (@okX_bad2 t S x)
  have HB3 := Lib.hid (@okX_bad3 t S x)
  have HG := Lib.hid (@okX_good t S x)
  have HE := Lib.hid (Ext.al w (Obj.cells #[Value.string x.name, va] 67))
  have HR := Lib.hid (hx.below HE.out)
  have HS := Lib.hid (hs.ext HE.out)
  have hc0 : (w.alloc (Obj.cells #[Value.string x.name, va] 67)).cell? ⟨w.heap.size, 0, none⟩ = some (.string x.name) := by
    rw [World.cell?_alloc_at _ _ _ _ rfl]; rfl
  have hc1 : (w.alloc (Obj.cells #[Value.string x.name, va] 67)).cell? ⟨w.heap.size, 1, none⟩ = some va := by
    rw [World.cell?_alloc_at _ _ _ _ rfl]; rfl
  obtain ⟨A, c, rfl, hc, hm⟩ := hx.form
  clear hx hs
  unfold maxLen at hm
  go_enter Tryz.func153, Tryz.ntmps153
  go_wp2_with fail
  generalize w.alloc _ = w1 at *
  (with_reducible refine (Xtor_any _ _ hn).mono ?_)
  rintro e w' ⟨rfl, rfl⟩
  cases hq : xtorB x.name
  · have HQ := Lib.hid (HB1.out hq)
    clear hq
    go_wp2
    go_ret
    exact .no HQ.out HS.out (HE.out.but _)
  · have HQ := Lib.hid hq; clear hq
    go_wp2_with fail
    (with_reducible refine (add_any _ _ _ _ HS.out).mono ?_)
    rintro e w2 ⟨rfl, hs2, hx2⟩
    have hc0 := hx2.keep HS.out hc0
    have hc1 := hx2.keep HS.out hc1
    have HR2 := Lib.hid (HR.out.but hx2 HS.out)
    have HX2 := Lib.hid ((HE.out.but _).tr hx2); clear hx2
    cases hq : hasS S x.name
    · rw [hq] at hs2
      have HS2 := Lib.hid hs2; clear hs2
      have HQ2 := Lib.hid hq; clear hq
      by_cases h6 : x.args.length ≤ 6
      · have HG := Lib.hid (HG.out HQ.out HQ2.out h6)
        generalize x.args = l at *
        go_wp2
        go_loopw [29] (fun i wr => ∃ k : Nat, k ≤ l.length ∧ i = .int .i64 k ∧ Ext w2 wr ∧ l.all (okTy t) = (l.drop k).all (okTy t)) (fun i _ => l.length - (intOf i).toNat)
        case atStart => exact ⟨0, Nat.zero_le _, rfl, Ext.rf _, by simp⟩
        case round =>
          obtain ⟨k, hk, rfl, hb, hno⟩ := hrel
          have HN := Lib.hid hno; have HB := Lib.hid hb; clear hno hb
          by_cases hlt : k < l.length
          · have HRk := Lib.hid (HR2.out.below HB.out)
            obtain ⟨b2, o, rfl, hbl, h0, h1⟩ := HRk.out.at_ hlt
            have HD := Lib.hid (drop_step hlt)
            generalize l[k] = a at *
            have HW := Lib.hid (HB.out.tr (Ext.al wr (Obj.cells #[Value.int IntKind.i64 a.ty, Value.bool a.co] 69)))
            by_cases hA : 0 ≤ a.ty <;> by_cases hB : a.ty ≤ t
            · have HQ3 := Lib.hid (okTy_good hA hB)
              go_wp2
              go_roundw
              case rel => exact ⟨k + 1, by omega, by go_num, HW.out, by rw [HN.out, HD.out, List.all_cons, HQ3.out]; rfl⟩
              case measure => simp [intOf]; omega
            all_goals
              have HQ3 := Lib.hid (okTy_bad (t := t) (a := a) (by omega))
              go_wp2
              go_ret
              exact .no (by rw [HG.out, HN.out, HD.out, List.all_cons, HQ3.out]; rfl) (HS2.out.ext HW.out) (HX2.out.tr (HW.out.but _))
          · go_wp2
            go_ret
            exact .yes_ (by rw [HG.out, HN.out, drop_end hlt]; rfl) (HS2.out.ext HB.out) (HX2.out.tr (HB.out.but _))
      · have HQ3 := Lib.hid (HB3.out h6)
        go_wp2
        go_ret
        exact .no HQ3.out HS2.out HX2.out
    · have HQ2 := Lib.hid (HB2.out hq)
      rw [hq] at hs2
      have HS2 := Lib.hid hs2; clear hs2 hq
      go_wp2
      go_ret
      exact .no HQ2.out HS2.out HX2.out


theorem okD_bad1 {t : Int} {S : List ByteArray} {d : Decl} (h : nameB d.name = false) : okD t S d = false := by simp [okD, h]
theorem okD_bad2 {t : Int} {S : List ByteArray} {d : Decl} (h : hasS S d.name = true) : okD t S d = false := by simp [okD, h]
theorem okD_bad3 {t : Int} {S : List ByteArray} {d : Decl} (h : ¬ (1 ≤ d.xtors.length ∧ d.xtors.length ≤ 6)) : okD t S d = false := by
  unfold okD
  by_cases h1 : 1 ≤ d.xtors.length
  · have h2 : ¬ d.xtors.length ≤ 6 := fun h2 => h ⟨h1, h2⟩
    simp [h2]
  · simp [h1]
theorem okD_good {t : Int} {S : List ByteArray} {d : Decl} (h1 : nameB d.name = true) (h2 : hasS S d.name = false) (h3 : 1 ≤ d.xtors.length) (h4 : d.xtors.length ≤ 6) : okD t S d = okXs t (S ++ [d.name]) d.xtors := by simp [okD, h1, h2, h3, h4]
theorem addXs_cons (S : List ByteArray) (x : Xtor) (l : List Xtor) : addXs S (x :: l) = addXs (S ++ [x.name]) l := by simp [addXs]
theorem addXs_nil (S : List ByteArray) : addXs S [] = S := by simp [addXs]
theorem okXs_cons (t : Int) (S : List ByteArray) (x : Xtor) (l : List Xtor) : okXs t S (x :: l) = (okX t S x && okXs t (S ++ [x.name]) l) := rfl

theorem validDecl_any (b : Nat) (S : List ByteArray) (v : Value) (d : Decl) (t : Int) (w : World) (hs : SetAt w b S) (hd : RDecl w v d) :
    Calls Tryz.prog 142 #[v, .int .i64 t, .map (some b)] w (VPost b (okD t S d) (addD S d) w) := by
  have HB1 := Lib.hid (@okD_bad1 t S d)
  have HB2 := Lib.hid (@okD_bad2 t S d)
  have HB3 := Lib.hid (@okD_bad3 t S d)
  have HG := Lib.hid (@okD_good t S d)
  have HAD : Hid (addD S d = addXs (S ++ [d.name]) d.xtors) := rfl
  obtain ⟨va, rfl, hx, hn⟩ := hd
  generalize hrr : okD t S d = rr at *
  generalize hSS : addD S d = SS at *
  clear hrr hSS
  obtain ⟨nm, co, l⟩ := d
  dsimp only at *
  have HE := Lib.hid (Ext.al w (Obj.cells #[Value.string nm, Value.bool co, va] 72))
  have HR := Lib.hid (hx.below HE.out)
  have HS := Lib.hid (hs.ext HE.out)
  have hc0 : (w.alloc (Obj.cells #[Value.string nm, Value.bool co, va] 72)).cell? ⟨w.heap.size, 0, none⟩ = some (.string nm) := by
    rw [World.cell?_alloc_at _ _ _ _ rfl]; rfl
  have hc2 : (w.alloc (Obj.cells #[Value.string nm, Value.bool co, va] 72)).cell? ⟨w.heap.size, 2, none⟩ = some va := by
    rw [World.cell?_alloc_at _ _ _ _ rfl]; rfl
  obtain ⟨A, c, rfl, hc, hm⟩ := hx.form
  clear hx hs
  unfold maxLen at hm
  go_enter Tryz.func142, Tryz.ntmps142
  go_wp2_with fail
  generalize w.alloc _ = w1 at *
  (with_reducible refine (Plain_any _ _ hn).mono ?_)
  rintro e w' ⟨rfl, rfl⟩
  cases hq : nameB nm
  · have HQ := Lib.hid (HB1.out hq)
    clear hq
    go_wp2
    go_ret
    exact .no HQ.out HS.out (HE.out.but _)
  · have HQ := Lib.hid hq; clear hq
    go_wp2_with fail
    (with_reducible refine (add_any _ _ _ _ HS.out).mono ?_)
    rintro e w2 ⟨rfl, hs2, hx2⟩
    have hc0 := hx2.keep HS.out hc0
    have hc2 := hx2.keep HS.out hc2
    have HR2 := Lib.hid (HR.out.but hx2 HS.out)
    have HX2 := Lib.hid ((HE.out.but _).tr hx2); clear hx2
    cases hq : hasS S nm
    · rw [hq] at hs2
      have HS2 : Hid (SetAt w2 b (S ++ [nm])) := hs2
      clear hs2
      have HQ2 := Lib.hid hq; clear hq
      by_cases h6 : 1 ≤ l.length ∧ l.length ≤ 6
      · obtain ⟨h5, h6⟩ := h6
        have HG := Lib.hid (HG.out HQ.out HQ2.out h5 h6)
        generalize S ++ [nm] = S1 at *
        go_wp2
        go_loopw [33] (fun i wr => ∃ (k : Nat) (S' : List ByteArray), k ≤ l.length ∧ i = .int .i64 k ∧ SetAt wr b S' ∧ ExtBut b w2 wr ∧ okXs t S1 l = okXs t S' (l.drop k) ∧ addXs S1 l = addXs S' (l.drop k)) (fun i _ => l.length - (intOf i).toNat)
        case atStart => exact ⟨0, S1, Nat.zero_le _, rfl, HS2.out, ExtBut.rf _ _, rfl, rfl⟩
        case round =>
          obtain ⟨k, S', hk, rfl, hs3, hb, hno, had⟩ := hrel
          have HN := Lib.hid hno; have HB := Lib.hid hb; have HA := Lib.hid had; have HS3 := Lib.hid hs3; clear hno hb had hs3
          by_cases hlt : k < l.length
          · have HRk := Lib.hid (HR2.out.but HB.out HS2.out)
            obtain ⟨b2, o, vx, rfl, hbl, h0, h1, hx, hxn⟩ := HRk.out.at_ hlt
            have HD := Lib.hid (drop_step hlt)
            generalize l[k] = x at *
            obtain ⟨A2, c2, rfl, -⟩ := hx.form
            have HW := Lib.hid (Ext.al wr (Obj.cells #[Value.string x.name, Value.slice A2 x.args.length c2] 67))
            have HXa := Lib.hid (hx.below HW.out); clear hx
            go_wp2_with fail
            (with_reducible refine (validXtor_any _ _ _ _ _ _ (HS3.out.ext HW.out) HXa.out hxn).mono ?_)
            rintro e w3 ⟨rfl, hyes, hany, hx3⟩
            have HX3 := Lib.hid ((HB.out.tr (HW.out.but _)).tr hx3); have HY := Lib.hid hyes; have HAny := Lib.hid hany; clear hx3 hyes hany
            cases hq : okX t S' x
            · have HQ3 := Lib.hid hq; clear hq
              go_wp2
              go_ret
              obtain ⟨S4, hs4⟩ := HAny.out
              exact .no (by rw [HG.out, HN.out, HD.out, okXs_cons, HQ3.out]; rfl) hs4 (HX2.out.tr HX3.out)
            · have HQ3 := Lib.hid hq; clear hq
              go_wp2
              go_roundw
              case rel => exact ⟨k + 1, S' ++ [x.name], by omega, by go_num, HY.out HQ3.out, HX3.out, by rw [HN.out, HD.out, okXs_cons, HQ3.out]; rfl, by rw [HA.out, HD.out, addXs_cons]⟩
              case measure => simp [intOf]; omega
          · go_wp2
            go_ret
            exact .yes_ (by rw [HG.out, HN.out, drop_end hlt]; rfl) (by rw [HAD.out, HA.out, drop_end hlt, addXs_nil]; exact HS3.out) (HX2.out.tr HB.out)
      · have HQ3 := Lib.hid (HB3.out h6)
        by_cases h5 : 1 ≤ l.length
        all_goals
          have h7 : ¬ l.length ≤ 6 ∨ ¬ 1 ≤ l.length := by omega
          go_wp2
          go_ret
          exact .no HQ3.out HS2.out HX2.out
    · have HQ2 := Lib.hid (HB2.out hq)
      rw [hq] at hs2
      have HS2 := Lib.hid hs2; clear hs2 hq
      go_wp2
      go_ret
      exact .no HQ2.out HS2.out HX2.out

theorem Ext.butNew {w w1 w2 : World} (h : Ext w w1) (k : ExtBut w.heap.size w1 w2) : Ext w w2 :=
  ⟨k.os.trans h.os, k.tape.trans h.tape, k.output.trans h.output, Nat.le_trans h.size k.size, fun i hi => (k.block i (Nat.lt_of_lt_of_le hi h.size) (by omega)).trans (h.block i hi)⟩
theorem okDs_cons (t : Int) (S : List ByteArray) (d : Decl) (l : List Decl) : okDs t S (d :: l) = (okD t S d && okDs t (addD S d) l) := rfl
theorem validB_bad {l : List Decl} (h : ¬ l.length ≤ 8) : validB l = false := by simp [validB, h]
theorem validB_good {l : List Decl} (h : l.length ≤ 8) : validB l = okDs l.length [] l := by simp [validB, h]

theorem valid_any (v : Value) (l : List Decl) (w : World) (h : RDecls w v l) :
    Calls Tryz.prog 118 #[v] w fun e w' => e = .returned (.bool (validB l)) ∧ Ext w w' := by
  have HB := Lib.hid (@validB_bad l)
  have HG := Lib.hid (@validB_good l)
  generalize hrr : validB l = rr at *
  clear hrr
  have HE := Lib.hid (Ext.al w (Obj.map #[] 0))
  have HR := Lib.hid (h.below HE.out)
  have HS := Lib.hid (SetAt.new w)
  obtain ⟨A, c, rfl, hc, hm⟩ := h.form
  clear h
  unfold maxLen at hm
  have hmm := @run_makeMap Tryz.prog
  go_enter Tryz.func118, Tryz.ntmps118
  by_cases h8 : l.length ≤ 8
  · have HG := Lib.hid (HG.out h8)
    go_wp2
    have HZ2 : Hid (∀ w2, ExtBut w.heap.size (w.alloc (Obj.map #[] 0)) w2 → Ext w w2) := fun w2 h => Ext.butNew HE.out h
    generalize w.alloc _ = w1 at *
    generalize hbb : w.heap.size = b0 at *
    clear hbb
    go_loopw [12] (fun i wr => ∃ (k : Nat) (S' : List ByteArray), k ≤ l.length ∧ i = .int .i64 k ∧ SetAt wr b0 S' ∧ ExtBut b0 w1 wr ∧ okDs l.length [] l = okDs l.length S' (l.drop k)) (fun i _ => l.length - (intOf i).toNat)
    case atStart => exact ⟨0, [], Nat.zero_le _, rfl, HS.out, ExtBut.rf _ _, rfl⟩
    case round =>
      obtain ⟨k, S', hk, rfl, hs3, hb, hno⟩ := hrel
      have HN := Lib.hid hno; have HB := Lib.hid hb; have HS3 := Lib.hid hs3; clear hno hb hs3
      by_cases hlt : k < l.length
      · have HRk := Lib.hid (HR.out.but HB.out HS.out)
        obtain ⟨b2, o, vx, rfl, hbl, h0, h1, h2, hx, hxn⟩ := HRk.out.at_ hlt
        have HD := Lib.hid (drop_step hlt)
        generalize l[k] = d at *
        obtain ⟨A2, c2, rfl, -⟩ := hx.form
        have HW := Lib.hid (Ext.al wr (Obj.cells #[Value.string d.name, Value.bool d.codata, Value.slice A2 d.xtors.length c2] 72))
        have HXa : Hid (RDecl _ _ d) := ⟨_, rfl, hx.below HW.out, hxn⟩
        clear hx
        go_wp2_with fail
        (with_reducible refine (validDecl_any _ _ _ _ _ _ (HS3.out.ext HW.out) HXa.out).mono ?_)
        rintro e w3 ⟨rfl, hyes, hany, hx3⟩
        have HX3 := Lib.hid ((HB.out.tr (HW.out.but _)).tr hx3); have HY := Lib.hid hyes; clear hx3 hyes hany
        cases hq : okD l.length S' d
        · have HQ3 := Lib.hid hq; clear hq
          go_wp2
          go_ret
          exact ⟨ret_bool (by rw [HG.out, HN.out, HD.out, okDs_cons, HQ3.out]; rfl), HZ2.out _ HX3.out⟩
        · have HQ3 := Lib.hid hq; clear hq
          go_wp2
          go_roundw
          case rel => exact ⟨k + 1, addD S' d, by omega, by go_num, HY.out HQ3.out, HX3.out, by rw [HN.out, HD.out, okDs_cons, HQ3.out]; rfl⟩
          case measure => simp [intOf]; omega
      · go_wp2
        go_ret
        exact ⟨ret_bool (by rw [HG.out, HN.out, drop_end hlt]; rfl), HZ2.out _ HB.out⟩
  · have HQ := Lib.hid (HB.out h8)
    go_wp2
    go_ret
    exact ⟨ret_bool HQ.out.symm, Ext.rf _⟩
end Go.Proofs.YtogmjgccopmplaaGreat

/- decl.go: Result. -/
namespace Go.Proofs.YtogmjgccopmplaaGreat
open Go.RowKit

theorem declared_out (v : Value) (l : List Decl) (t : Int) (w : World) (h : RDecls w v l) (ht : ¬ (1 ≤ t ∧ t ≤ l.length)) :
    Calls Tryz.prog 123 #[v, .int .i64 t] w fun e w' => e = .returned (.tuple #[.agg #[.string ⟨#[]⟩, .bool false, .slice none 0 0], .bool false]) ∧ Ext w w' := by
  obtain ⟨A, c, rfl, hc, hm⟩ := h.form
  clear h
  unfold maxLen at hm
  by_cases h1 : 1 ≤ t
  · have h2 : ¬ t ≤ l.length := fun h2 => ht ⟨h1, h2⟩
    clear ht
    go_enter Tryz.func123, Tryz.ntmps123
    go_wp2
    exact bodyPost_ret (v := .tuple #[.agg #[.string ⟨#[]⟩, .bool false, .slice none 0 0], .bool false]) (by simp [results, Tryz.results123, go_sem]) rfl ⟨rfl, (Ext.al _ _)⟩
  · clear ht
    go_enter Tryz.func123, Tryz.ntmps123
    go_wp2
    exact bodyPost_ret (v := .tuple #[.agg #[.string ⟨#[]⟩, .bool false, .slice none 0 0], .bool false]) (by simp [results, Tryz.results123, go_sem]) rfl ⟨rfl, (Ext.al _ _)⟩

theorem declared_in (v : Value) (l : List Decl) (t : Nat) (w : World) (h : RDecls w v l) (ht : t < l.length) :
    Calls Tryz.prog 123 #[v, .int .i64 (t + 1)] w fun e w' => (∃ va, e = .returned (.tuple #[.agg #[.string (l[t]).name, .bool (l[t]).codata, va], .bool true]) ∧ RXtors w va (l[t]).xtors) ∧ Ext w w' := by
  have HR := Lib.hid h
  obtain ⟨A, c, rfl, hc, hm⟩ := h.form
  clear h
  unfold maxLen at hm
  obtain ⟨b, o, vx, rfl, hbl, h0, h1, h2, h3, h4⟩ := HR.out.at_ ht
  generalize l[t] = d at *
  obtain ⟨A2, c2, rfl, -⟩ := h3.form
  have HX := Lib.hid h3; clear h3
  have e : ((t : Int) + 1 - 1) = t := by omega
  have hz : (w.alloc (Obj.cells #[.string ⟨#[]⟩, .bool false, .slice none 0 0] 72)).heap.size = w.heap.size + 1 := by simp
  go_enter Tryz.func123, Tryz.ntmps123
  go_wp2
  refine bodyPost_ret (v := .tuple #[.agg #[.string d.name, .bool d.codata, .slice A2 d.xtors.length c2], .bool true]) (by simp [results, Tryz.results123, go_sem]) rfl ⟨⟨_, rfl, HX.out⟩, (Ext.al _ _)⟩

theorem Result_any (v : Value) (l : List Decl) (t n : Int) (w : World) (h : RDecls w v l) :
    Calls Tryz.prog 94 #[v, .int .i64 t, .int .i64 n] w fun e w' => e = .returned (.tuple #[.int .i64 (resI l t n).1, .int .i64 (resI l t n).2]) ∧ Ext w w' := by
  have HB := Lib.hid (@resI_bad l t n)
  have HO := Lib.hid (@resI_out l t n)
  have HR := Lib.hid h
  generalize hrr : resI l t n = rr at *
  have HRR := Lib.hid hrr; clear hrr
  obtain ⟨A, c, rfl, hc, hm⟩ := h.form
  clear h
  unfold maxLen at hm
  go_enter Tryz.func94, Tryz.ntmps94
  go_wp2_with fail
  (with_reducible refine (valid_any _ _ _ HR.out).mono ?_)
  rintro e w1 ⟨rfl, hb⟩
  have HB1 := Lib.hid hb; clear hb
  have HR1 := Lib.hid (HR.out.below HB1.out)
  cases hq : validB l
  · have HQ := Lib.hid hq; clear hq
    go_wp2
    go_ret2
    exact ⟨by rw [HB.out HQ.out]; rfl, HB1.out⟩
  · have HQ := Lib.hid hq; clear hq
    by_cases hr : 1 ≤ t ∧ t ≤ l.length
    · obtain ⟨u, hu⟩ : ∃ u : Nat, t = u + 1 := ⟨(t - 1).toNat, by omega⟩
      subst hu
      have hul : u < l.length := by omega
      clear hr
      go_wp2_with fail
      (with_reducible refine (declared_in _ _ _ _ HR1.out hul).mono ?_)
      rintro e w2 ⟨⟨va, rfl, hx⟩, hb⟩
      have HB2 := Lib.hid (HB1.out.tr hb)
      obtain ⟨A2, c2, rfl, hc2, hm2⟩ := hx.form
      unfold maxLen at hm2
      have HX := Lib.hid (hx.below hb); clear hx hb
      cases hcd : (l[u]).codata
      · have HI := Lib.hid (resI_data (n := n) HQ.out hul hcd)
        clear hcd
        generalize l[u] = d at *
        go_wp2
        go_ret2
        exact ⟨by rw [← HRR.out, HI.out]; rfl, HB2.out.tr (Ext.al _ _)⟩
      · have HCD := Lib.hid hcd; clear hcd
        by_cases hn : 0 ≤ n ∧ n < (l[u]).xtors.length
        · obtain ⟨k, rfl⟩ := Int.eq_ofNat_of_zero_le hn.1
          have hk : k < (l[u]).xtors.length := by omega
          clear hn
          have HN := Lib.hid (resI_noend HQ.out hul hk)
          have HE := Lib.hid (resI_end HQ.out hul hk HCD.out)
          generalize l[u] = d at *
          obtain ⟨b2, o2, va, rfl, hbl2, g0, g1, g2, g3⟩ := HX.out.at_ hk
          generalize d.xtors[k] = x at *
          obtain ⟨A3, c3, rfl, hc3, hm3⟩ := g2.form
          unfold maxLen at hm3
          have HW := Lib.hid (Ext.al w2 (Obj.cells #[Value.string d.name, Value.bool true, Value.slice (some ⟨b2, o2, none⟩) d.xtors.length c2] 72))
          have HA := Lib.hid (g2.below HW.out); clear g2
          have g0 := HW.out.keep g0
          have g1 := HW.out.keep g1
          go_wp2_with fail
          (with_reducible refine (ends_any _ _ _ HA.out).mono ?_)
          rintro e w3 ⟨rfl, hb⟩
          have HA3 := Lib.hid (HA.out.below hb)
          have HB3 := Lib.hid ((HB2.out.tr HW.out).tr hb); clear hb
          cases he : endsB x.args
          · have HN2 := Lib.hid (HN.out he)
            clear he
            go_wp2
            go_ret2
            exact ⟨by rw [← HRR.out, HN2.out]; rfl, HB3.out⟩
          · have hp := endsB_pos he
            have HE2 := Lib.hid (HE.out he)
            have HLT := Lib.hid (lastTy_eq hp)
            clear he
            obtain ⟨b4, o4, rfl, hbl4, f0, f1⟩ := HA3.out.at_ (k := x.args.length - 1) (by omega)
            generalize x.args[x.args.length - 1] = a at *
            go_wp2
            go_ret2
            exact ⟨by rw [← HRR.out, HE2.out, HLT.out]; rfl, HB3.out⟩
        · have HI := Lib.hid (resI_none (n := n) HQ.out hul hn)
          generalize l[u] = d at *
          by_cases hn0 : 0 ≤ n
          all_goals
            have hn1 : n < 0 ∨ (d.xtors.length : Int) ≤ n := by omega
            clear hn
            go_wp2
            go_ret2
            exact ⟨by rw [← HRR.out, HI.out]; rfl, HB2.out.tr (Ext.al _ _)⟩
    · have HO2 := Lib.hid (HO.out HQ.out hr)
      go_wp2_with fail
      (with_reducible refine (declared_out _ _ _ _ HR1.out hr).mono ?_)
      rintro e w2 ⟨rfl, hb⟩
      have HB2 := Lib.hid (HB1.out.tr hb); clear hb
      clear hr
      go_wp2
      go_ret2
      exact ⟨by rw [HO2.out]; rfl, HB2.out.tr (Ext.al _ _)⟩

end Go.Proofs.YtogmjgccopmplaaGreat

namespace Go.Proofs.YtogmjgccopmplaaGreat
open Go.RowKit

def codB (l : List Decl) (t : Int) : Bool := if 1 ≤ t then (l[(t - 1).toNat]?.map Decl.codata).getD false else false
theorem codB_in {l : List Decl} {t : Nat} (h : t < l.length) : codB l (t + 1) = (l[t]).codata := by
  unfold codB
  have e : ((t : Int) + 1 - 1).toNat = t := by omega
  rw [if_pos (by omega), e, List.getElem?_eq_getElem h]; rfl
theorem codB_out {l : List Decl} {t : Int} (h : ¬ (1 ≤ t ∧ t ≤ l.length)) : codB l t = false := by
  unfold codB
  split
  · rw [List.getElem?_eq_none (by omega)]; rfl
  · rfl
theorem RCodata_any (v : Value) (l : List Decl) (t : Int) (w : World) (h : RDecls w v l) :
    Calls Tryz.prog 117 #[v, .int .i64 t] w fun e w' => e = .returned (.bool (codB l t)) ∧ w = w' := by
  have HR := Lib.hid h
  obtain ⟨A, c, rfl, hc, hm⟩ := h.form
  clear h
  unfold maxLen at hm
  by_cases hr : 1 ≤ t ∧ t ≤ l.length
  · obtain ⟨u, hu⟩ : ∃ u : Nat, t = u + 1 := ⟨(t - 1).toNat, by omega⟩
    subst hu
    have hul : u < l.length := by omega
    clear hr
    have HI := Lib.hid (codB_in hul)
    obtain ⟨b, o, vx, rfl, hbl, h0, h1, h2, h3, h4⟩ := HR.out.at_ hul
    clear h3
    generalize l[u] = d at *
    go_enter Tryz.func117, Tryz.ntmps117
    go_wp2
    go_ret
    exact ⟨ret_bool (by rw [HI.out]), rfl⟩
  · have HI := Lib.hid (codB_out hr)
    by_cases h1 : 1 ≤ t
    all_goals
      have hn1 : t < 1 ∨ (l.length : Int) < t := by omega
      clear hr
      go_enter Tryz.func117, Tryz.ntmps117
      go_wp2
      go_ret
      exact ⟨ret_bool HI.out.symm, rfl⟩

def hasI (l : List Decl) (t n : Int) : Bool := if 1 ≤ t ∧ 0 ≤ n then decide (n < ((l[(t - 1).toNat]?.map fun d => d.xtors.length).getD 0 : Nat)) else false
theorem hasI_in {l : List Decl} {t : Nat} {n : Int} (h : t < l.length) (h0 : 0 ≤ n) : hasI l (t + 1) n = decide (n < ((l[t]).xtors.length : Int)) := by
  unfold hasI
  have e : ((t : Int) + 1 - 1).toNat = t := by omega
  rw [if_pos (by omega), e, List.getElem?_eq_getElem h]; rfl
theorem hasI_neg {l : List Decl} {t n : Int} (h : ¬ 0 ≤ n) : hasI l t n = false := by
  unfold hasI
  rw [if_neg (by omega)]
theorem hasI_out {l : List Decl} {t n : Int} (h : ¬ (1 ≤ t ∧ t ≤ l.length)) : hasI l t n = false := by
  unfold hasI
  split
  · rw [List.getElem?_eq_none (by omega)]; simp; omega
  · rfl
theorem RHas_any (v : Value) (l : List Decl) (t n : Int) (w : World) (h : RDecls w v l) :
    Calls Tryz.prog 116 #[v, .int .i64 t, .int .i64 n] w fun e w' => e = .returned (.bool (hasI l t n)) ∧ w = w' := by
  have HR := Lib.hid h
  obtain ⟨A, c, rfl, hc, hm⟩ := h.form
  clear h
  unfold maxLen at hm
  by_cases hr : 1 ≤ t ∧ t ≤ l.length
  · obtain ⟨u, hu⟩ : ∃ u : Nat, t = u + 1 := ⟨(t - 1).toNat, by omega⟩
    subst hu
    have hul : u < l.length := by omega
    clear hr
    obtain ⟨b, o, vx, rfl, hbl, h0, h1, h2, h3, h4⟩ := HR.out.at_ hul
    obtain ⟨A2, c2, rfl, hc2, hm2⟩ := h3.form
    unfold maxLen at hm2
    clear h3
    by_cases hn : 0 ≤ n
    · have HI := Lib.hid (hasI_in hul hn)
      generalize l[u] = d at *
      go_enter Tryz.func116, Tryz.ntmps116
      go_wp2
      go_ret
      exact ⟨ret_bool (by rw [HI.out]), rfl⟩
    · have HI := Lib.hid (hasI_neg (l := l) (t := u + 1) hn)
      generalize l[u] = d at *
      go_enter Tryz.func116, Tryz.ntmps116
      go_wp2
      go_ret
      exact ⟨ret_bool (by rw [HI.out]), rfl⟩
  · have HI := Lib.hid (hasI_out (n := n) hr)
    by_cases h1 : 1 ≤ t
    all_goals
      have hn1 : t < 1 ∨ (l.length : Int) < t := by omega
      clear hr
      go_enter Tryz.func116, Tryz.ntmps116
      go_wp2
      go_ret
      exact ⟨ret_bool HI.out.symm, rfl⟩
end Go.Proofs.YtogmjgccopmplaaGreat
