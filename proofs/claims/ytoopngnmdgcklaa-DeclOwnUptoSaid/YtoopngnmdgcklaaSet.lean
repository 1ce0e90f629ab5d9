/- A set of strings, kept as a map to bools: look-up and store. -/
import Derived.Test.YtoopngnmdgcklaaMem
import Derived.Carry
import Derived.MapKept
import Derived.Laws.StructEq
namespace Go.Proofs.Ytoopngnmdgcklaa
open Go.RowKit

def SetAt (w : World) (b : Nat) (S : List ByteArray) : Prop :=
  ∃ es clock, w.heap[b]? = some (.map es clock) ∧ es.toList.map MapEntry.key = S.map Value.string ∧ ∀ e ∈ es.toList, e.val = .bool true


theorem findNow_set (k : ByteArray) : ∀ (es : List MapEntry) (S : List ByteArray) (i : Nat), es.map MapEntry.key = S.map Value.string → (∀ e ∈ es, e.val = .bool true) →
    (hasS S k = true → ∃ j, Instr.findNow .string (.string k) es i = some (some (j, .bool true))) ∧ (hasS S k = false → Instr.findNow .string (.string k) es i = some none)
  | [], [], i, _, _ => ⟨fun h => by simp [hasS] at h, fun _ => rfl⟩
  | [], _ :: _, i, h, _ => by simp at h
  | _ :: _, [], i, h, _ => by simp at h
  | e :: es, s :: S, i, h, hv => by
    simp only [List.map_cons, List.cons.injEq] at h
    obtain ⟨h1, h2⟩ := h
    have ih := findNow_set k es S (i + 1) h2 (fun e he => hv e (List.mem_cons_of_mem _ he))
    have hval := hv e (List.mem_cons_self ..)
    have hh : hasS (s :: S) k = ((k.toList == s.toList) || hasS S k) := rfl
    unfold Instr.findNow
    rw [h1, hh]
    simp only [Instr.sameNow, beq_toListBytes]
    cases hk : (k.toList == s.toList)
    · simpa using ih
    · simp [hval]

theorem run_lookup_set (t : TypeId) (kt vt : TypeId) (P : Program) (ht : P.underlying t = some (.map kt vt)) (hk : P.underlying kt = some .string) (w : World) (hz : (zeroValue vt).run P w = .ok (.bool false) w)
    (b : Nat) (S : List ByteArray) (h : SetAt w b S) (k : ByteArray) :
    (Instr.lookup t (.map (some b)) (.string k) false).run P w = .ok (.bool (hasS S k)) w := by
  obtain ⟨es, clock, hb, hkeys, hv⟩ := h
  obtain ⟨f1, f2⟩ := findNow_set k es.toList S 0 hkeys hv
  have hkey : MapKept.IsKey .string (.string k) := by simp [MapKept.IsKey]
  cases hc : hasS S k
  · have hf := f2 hc
    simp [Instr.lookup, run_underlying ht, MapKept.run_getObj_map hb, MapKept.run_checkKey hk hkey, MapKept.run_findKey hk hf, Result.andThen, hz]
  · obtain ⟨j, hf⟩ := f1 hc
    simp [Instr.lookup, run_underlying ht, MapKept.run_getObj_map hb, MapKept.run_checkKey hk hkey, MapKept.run_findKey hk hf, Result.andThen]

theorem run_update_set (t : TypeId) (kt vt : TypeId) (P : Program) (ht : P.underlying t = some (.map kt vt)) (hk : P.underlying kt = some .string) (w : World)
    (b : Nat) (S : List ByteArray) (h : SetAt w b S) (k : ByteArray) (hn : hasS S k = false) :
    ∃ w', (Instr.mapUpdate t (.map (some b)) (.string k) (.bool true)).run P w = .ok () w' ∧ SetAt w' b (S ++ [k]) ∧ Below b w w' ∧ (∀ j, j ≠ b → w'.heap[j]? = w.heap[j]?) ∧ w'.heap.size = w.heap.size := by
  obtain ⟨es, clock, hb, hkeys, hv⟩ := h
  obtain ⟨f1, f2⟩ := findNow_set k es.toList S 0 hkeys hv
  have hf := f2 hn
  have hlt : b < w.heap.size := (Array.getElem?_eq_some_iff.1 hb).1
  have hkey : MapKept.IsKey .string (.string k) := by simp [MapKept.IsKey]
  refine ⟨{ w with heap := w.heap.setIfInBounds b (.map (es.push { key := .string k, val := .bool true, born := clock }) (clock + 1)) }, ?_, ⟨es.push { key := .string k, val := .bool true, born := clock }, clock + 1, ?_, ?_, ?_⟩, ?_, ?_, ?_⟩
  · simp [Instr.mapUpdate, run_underlying ht, MapKept.run_getObj_map hb, MapKept.run_checkKey hk hkey, MapKept.run_findKey hk hf, MapKept.run_setObj_map _ hb, Result.andThen]
  · simp [hlt]
  · simp [hkeys]
  · intro e he
    simp at he
    rcases he with he | rfl
    · exact hv e (by simpa using he)
    · rfl
  · exact ⟨rfl, rfl, rfl, by simp, fun j hj => by simp [Array.getElem?_setIfInBounds]; omega⟩
  · intro j hj
    simp [Array.getElem?_setIfInBounds]
    omega
  · simp

theorem SetAt.new (w : World) : SetAt (w.alloc (.map #[] 0)) w.heap.size [] := ⟨#[], 0, (MapKept.heap_alloc w _).1, rfl, by simp⟩
theorem SetAt.lt {w : World} {b : Nat} {S : List ByteArray} (h : SetAt w b S) : b < w.heap.size := by
  obtain ⟨es, clock, hb, _⟩ := h
  exact (Array.getElem?_eq_some_iff.1 hb).1
theorem SetAt.ext {w w' : World} {b : Nat} {S : List ByteArray} (h : SetAt w b S) (hb : Ext w w') : SetAt w' b S := by
  have hlt := h.lt
  obtain ⟨es, clock, he, h1, h2⟩ := h
  exact ⟨es, clock, (hb.block b hlt).trans he, h1, h2⟩

/-- All that was there is as it was, but for block b. -/
structure ExtBut (b : Nat) (w w' : World) : Prop where
  os : w'.os = w.os
  tape : w'.tape = w.tape
  output : w'.output = w.output
  size : w.heap.size ≤ w'.heap.size
  block : ∀ k, k < w.heap.size → k ≠ b → w'.heap[k]? = w.heap[k]?
theorem ExtBut.rf (b : Nat) (w : World) : ExtBut b w w := ⟨rfl, rfl, rfl, Nat.le_refl _, fun _ _ _ => rfl⟩
theorem Ext.but {w w' : World} (h : Ext w w') (b : Nat) : ExtBut b w w' := ⟨h.os, h.tape, h.output, h.size, fun k hk _ => h.block k hk⟩
theorem ExtBut.tr {b : Nat} {w1 w2 w3 : World} (h : ExtBut b w1 w2) (k : ExtBut b w2 w3) : ExtBut b w1 w3 :=
  ⟨k.os.trans h.os, k.tape.trans h.tape, k.output.trans h.output, Nat.le_trans h.size k.size, fun i hi hn => (k.block i (Nat.lt_of_lt_of_le hi h.size) hn).trans (h.block i hi hn)⟩
theorem ExtBut.below {b : Nat} {w w' : World} (h : ExtBut b w w') (hb : b ≤ w.heap.size) : Below b w w' :=
  ⟨h.os, h.tape, h.output, h.size, fun k hk => h.block k (by omega) (by omega)⟩
theorem ExtBut.cell {b : Nat} {w w' : World} (h : ExtBut b w w') {p : Addr} {v : Value} (hv : w.cell? p = some v) (hp : p.block ≠ b) : w'.cell? p = some v :=
  (World.cell?_of_block (w := w) (h.block p.block (cell_lt hv) hp)).trans hv
theorem set_ne_cell {w : World} {b : Nat} {S : List ByteArray} (h : SetAt w b S) {p : Addr} {v : Value} (hv : w.cell? p = some v) : p.block ≠ b := by
  obtain ⟨es, clock, he, _⟩ := h
  rintro rfl
  unfold World.cell? at hv
  rw [he] at hv
  cases hv
/-- A cell is no place of the set's. -/
theorem ExtBut.keep {b : Nat} {w w' : World} {S : List ByteArray} (h : ExtBut b w w') (hs : SetAt w b S) {p : Addr} {v : Value} (hv : w.cell? p = some v) : w'.cell? p = some v :=
  h.cell hv (set_ne_cell hs hv)
section
variable {w w' : World} {v : Value} {b : Nat} {S : List ByteArray}
theorem RArgs.but {l : List Arg} (h : RArgs w v l) (hb : ExtBut b w w') (hs : SetAt w b S) : RArgs w' v l := by
  obtain ⟨A, c, rfl, h1, h2, h3⟩ := h
  refine ⟨A, c, rfl, h1, h2, fun i a hi => ?_⟩
  obtain ⟨b, o, rfl, hlt, h4, h5⟩ := h3 i a hi
  exact ⟨b, o, rfl, Nat.lt_of_lt_of_le hlt hb.size, hb.keep hs h4, hb.keep hs h5⟩
theorem RXtors.but {l : List Xtor} (h : RXtors w v l) (hb : ExtBut b w w') (hs : SetAt w b S) : RXtors w' v l := by
  obtain ⟨A, c, rfl, h1, h2, h3⟩ := h
  refine ⟨A, c, rfl, h1, h2, fun i a hi => ?_⟩
  obtain ⟨b, o, va, rfl, hlt, h4, h5, h6, h7⟩ := h3 i a hi
  exact ⟨b, o, va, rfl, Nat.lt_of_lt_of_le hlt hb.size, hb.keep hs h4, hb.keep hs h5, h6.but hb hs, h7⟩
theorem RDecls.but {l : List Decl} (h : RDecls w v l) (hb : ExtBut b w w') (hs : SetAt w b S) : RDecls w' v l := by
  obtain ⟨A, c, rfl, h1, h2, h3⟩ := h
  refine ⟨A, c, rfl, h1, h2, fun i a hi => ?_⟩
  obtain ⟨b, o, va, rfl, hlt, h4, h5, h6, h7, h8⟩ := h3 i a hi
  exact ⟨b, o, va, rfl, Nat.lt_of_lt_of_le hlt hb.size, hb.keep hs h4, hb.keep hs h5, hb.keep hs h6, h7.but hb hs, h8⟩
end

/-- 'nameSet.add': new names are added and told. -/
theorem add_any (b : Nat) (S : List ByteArray) (k : ByteArray) (w : World) (h : SetAt w b S) :
    Calls Try.prog 51 #[.map (some b), .string k] w fun e w' => e = .returned (.bool (!hasS S k)) ∧ SetAt w' b (if hasS S k then S else S ++ [k]) ∧ ExtBut b w w' := by
  have hz : (zeroValue 4).run Try.prog w = .ok (.bool false) w := by kernel_rfl
  have hl := run_lookup_set 70 9 4 Try.prog Try.underlying70 Try.underlying9 w hz b S h k
  have HA := Lib.hid h
  clear h
  cases hc : hasS S k
  · rw [hc] at hl
    obtain ⟨w1, hu, hs, hb1, hoth, hsz⟩ := run_update_set 70 9 4 Try.prog Try.underlying70 Try.underlying9 w b S HA.out k hc
    have HS := Lib.hid hs; clear hs
    have HX : Hid (ExtBut b w w1) := ⟨hb1.os, hb1.tape, hb1.output, hb1.size, fun k _ hk => hoth k hk⟩
    clear hb1 hoth hsz hc hz
    go_enter Try.func51, Try.ntmps51
    go_wp2
    go_ret
    exact ⟨rfl, HS.out, HX.out⟩
  · rw [hc] at hl
    clear hc
    go_enter Try.func51, Try.ntmps51
    go_wp2
    go_ret
    exact ⟨rfl, HA.out, ExtBut.rf _ _⟩
end Go.Proofs.Ytoopngnmdgcklaa
