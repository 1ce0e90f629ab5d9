import Derived.Test.YtoopngnmdgcklaaMem
import Derived.Test.YtoopngnmdgcklaaShelf
import Derived.Lib.OthersKept
namespace Go.Proofs.Ytoopngnmdgcklaa
open Go.RowKit

theorem Try.info5 : (Try.prog.info? 5).map (fun i => (i.zero, i.size, i.bytes)) = some (some (.int .u8 0), 1, 1) := by kernel_rfl
theorem Try.sizeBuilder : (Try.prog.info? 75).map (·.size) = some 2 := by kernel_rfl
theorem Try.liesBuilder : liesAt Try.prog Try.prog.depth 75 (2 / Try.prog.cellsOf 75) 0 75 1 = true := by kernel_rfl

theorem copyCheck_any (B b : Nat) (bs : List Value) (w : World) (h : Lib.IsBuilderF 75 5 B b bs w) :
    Calls Try.prog 53 #[.pointer (some ⟨b, 0, none⟩)] w fun e w' => e = .returned (.tuple #[]) ∧ Lib.BuilderAtF 75 5 B b (.pointer (some ⟨b, 0, none⟩)) bs w' ∧ Below B w w' ∧ Lib.OthersKept 5 (some b) w w' := by
  obtain ⟨j, hj, hjs⟩ := Option.map_eq_some_iff.1 Try.sizeBuilder
  have HJ := Lib.hid hj; have HJS := Lib.hid hjs; clear hj hjs
  rcases h with h | h
  · have c0 := h.cell0
    have f0 := h.frozen0
    have HSH := Lib.hid h.shape
    have HH := Lib.hid h; clear h
    go_enter Try.func53, Try.ntmps53
    go_wp2
    rw [Lib.run_to_unsafe w ⟨b, 0, none⟩ Try.underlying72 Try.underlying94 HJ.out (by rw [HJS.out]; decide) HSH.out (Nat.zero_lt_succ 1)]
    simp only [Result.andThen]
    rw [Oper.upon_value]
    go_wp2
    rw [run_callFunc_extern Try.func62 (by kernel_rfl) (by kernel_rfl) (by kernel_rfl) (e := Extern.AbiNoEscape.same) (by kernel_rfl)]
    rw [Lib.run_noEscape]
    simp only [Result.andThen]
    rw [Oper.upon_value]
    go_wp2
    rw [Lib.run_from_unsafe w ⟨b, 0, none⟩ Try.underlying94 Try.underlying72 HJ.out HSH.out Try.liesBuilder]
    simp only [Result.andThen]
    rw [Oper.upon_value]
    go_wp2
    go_end0
    exact ⟨rfl, HH.out.used _, (Below.refl B w).setCell (p := ⟨b, 0, none⟩) HH.out.1 _, (Lib.OthersKept.refl _ _ w).setCell ⟨b, 0, none⟩ rfl _⟩
  · have c0 := h.cell0
    have HH := Lib.hid h; clear h
    go_enter Try.func53, Try.ntmps53
    go_wp2
    rw [Lib.run_neq_ptr_same w _ Try.underlying72 HJ.out]
    go_wp2
    go_end0
    exact ⟨rfl, HH.out, Below.refl B _, Lib.OthersKept.refl _ _ _⟩

/-- The builder in block b holds these bytes. -/
def BW (B b : Nat) (bs : List UInt8) (w : World) : Prop := Lib.IsBuilderF 75 5 B b (Lib.byteCells bs) w
/-- What a writer leaves. -/
structure Wrote (B b : Nat) (bs : List UInt8) (w w' : World) : Prop where
  at_ : BW B b bs w'
  below : Below B w w'
  others : Lib.OthersKept 5 (some b) w w'
theorem Wrote.rf {B b : Nat} {bs : List UInt8} {w : World} (h : BW B b bs w) : Wrote B b bs w w := ⟨h, Below.refl _ _, Lib.OthersKept.refl _ _ _⟩
theorem Wrote.tr {B b : Nat} {bs cs : List UInt8} {w1 w2 w3 : World} (h : Wrote B b bs w1 w2) (k : Wrote B b cs w2 w3) : Wrote B b cs w1 w3 := ⟨k.at_, h.below.trans k.below, h.others.trans k.others⟩
theorem byteCells_app (a b : List UInt8) : Lib.byteCells a ++ Lib.byteCells b = Lib.byteCells (a ++ b) := by simp [Lib.byteCells]

theorem WriteString_any (B b : Nat) (bs : List UInt8) (s : ByteArray) (w : World) (h : BW B b bs w) (hlen : bs.length + s.size ≤ 140737488355328) (hBw : B ≤ w.heap.size) :
    Calls Try.prog 41 #[.pointer (some ⟨b, 0, none⟩), .string s] w fun e w' => e = .returned (.tuple #[.int .i64 s.size, .nilIface]) ∧ Wrote B b (bs ++ s.data.toList) w w' := by
  obtain ⟨i0, hi, hz0, hz1, hz2⟩ := info_parts Try.info5
  have HI := Lib.hid hi; have HZ0 := Lib.hid hz0; have HZ1 := Lib.hid hz1; have HZ2 := Lib.hid hz2; clear hi hz0 hz1 hz2
  have HL := Lib.hid hlen; clear hlen
  go_enter Try.func41, Try.ntmps41
  go_wp2_with (go_at_call 53; refine (copyCheck_any B b _ _ h).mono ?_)
  rintro e w1 ⟨rfl, h1, hb1, hk1⟩
  obtain ⟨hB, v, hbk, hown, hne⟩ := h1
  have c0 : w1.cell? ⟨b, 0, none⟩ = some (.pointer (some ⟨b, 0, none⟩)) := by rw [Lib.cell_of_heap hbk]; rfl
  have c1 : w1.cell? ⟨b, 1, none⟩ = some v := by rw [Lib.cell_of_heap hbk]; rfl
  have hl : (Lib.byteCells bs).length + s.size ≤ 140737488355328 := by have := HL.out; simpa [Lib.byteCells] using this
  go_wp2_with (at_builtin; refine Lib.wpList_append_own_stringF _ rfl _ _ 73 9 rfl B 5 i0 Try.underlying73 Try.underlying9 HI.out HZ0.out HZ1.out HZ2.out _ _ _ rfl hown s rfl ?c3 ?c4 ?c5 ?_)
  case c3 => unfold maxLen; omega
  case c4 => omega
  case c5 => have := hb1.size; omega
  intro v' w2 hown' hgrow _
  have hlt : b < w1.heap.size := by
    rcases Nat.lt_or_ge b w1.heap.size with h' | h'
    · exact h'
    · simp [Array.getElem?_eq_none h'] at hbk
  have hb2 : w2.heap[b]? = some (.cells #[.pointer (some ⟨b, 0, none⟩), v] 75 (0, 0)) := by
    rw [hgrow.block b hlt (fun e => hne e.symm)]
    exact hbk
  have d0 : w2.cell? ⟨b, 0, none⟩ = some (.pointer (some ⟨b, 0, none⟩)) := by rw [Lib.cell_of_heap hb2]; rfl
  have d1 : w2.cell? ⟨b, 1, none⟩ = some v := by rw [Lib.cell_of_heap hb2]; rfl
  have f1 : w2.frozen? ⟨b, 1, none⟩ = false := Lib.frozen_of_heap hb2 1
  obtain ⟨ao, n', cap, rfl⟩ : ∃ ao n' cap, v' = .slice ao n' cap := by
    rcases hown'.2 with ⟨hv, _⟩ | ⟨g, cap, cur, fz, hv, _⟩
    · exact ⟨_, _, _, hv⟩
    · exact ⟨_, _, _, hv⟩
  have hat : BW B b (bs ++ s.data.toList) (w2.setCell ⟨b, 1, none⟩ (.slice ao n' cap)) := by
    refine Or.inr ?_
    rw [← byteCells_app]
    exact Lib.BuilderAtF.put (T := 75) (e := 5) hB hb2 (bs' := Lib.byteCells bs ++ Lib.byteCells s.data.toList) (by rw [← Lib.strCells_eq, List.length_append, Lib.strCells_length]; exact hown') (by decide)
  have HAT := Lib.hid hat; clear hat
  have HB := Lib.hid ((hb1.grown hgrow (by have := hb1.size; omega) (fun k hk => (hown.lt k hk).1)).setCell (p := ⟨b, 1, none⟩) hB (.slice ao n' cap))
  have HK := Lib.hid ((hk1.grown hgrow (Lib.ownsRowF_kind hown)).setCell ⟨b, 1, none⟩ rfl (.slice ao n' cap))
  clear hown hown' hgrow hb1 hk1
  go_wp2
  go_ret2
  exact ⟨rfl, HAT.out, HB.out, HK.out⟩

theorem separate_any (B b : Nat) (bs : List UInt8) (i : Nat) (w : World) (h : BW B b bs w) (hlen : bs.length + 2 ≤ 140737488355328) (hBw : B ≤ w.heap.size) :
    Calls Try.prog 43 #[.pointer (some ⟨b, 0, none⟩), .int .i64 i] w fun e w' => e = .returned (.tuple #[]) ∧ Wrote B b (bs ++ if 0 < i then [44, 32] else []) w w' := by
  have HB := Lib.hid h; clear h
  by_cases h0 : 0 < i
  · rw [if_pos h0]
    go_enter Try.func43, Try.ntmps43
    go_wp2_with (go_at_call 41; refine (WriteString_any B b bs ⟨#[44, 32]⟩ _ HB.out hlen hBw).mono ?_; rintro e w1 ⟨rfl, hw⟩; have HW := Lib.hid hw; clear hw)
    go_end0
    exact ⟨rfl, HW.out⟩
  · rw [if_neg h0]
    go_enter Try.func43, Try.ntmps43
    go_wp2
    go_end0
    exact ⟨rfl, by rw [List.append_nil]; exact Wrote.rf HB.out⟩
end Go.Proofs.Ytoopngnmdgcklaa
