/- An argument that is a list of declarations, opened: what the walks are told of it. -/
import Derived.Test.YtoopngnmdgcklaaMem
import Derived.Test.YtoopngnmdgcklaaRows
import Derived.ProofKit
import Derived.Deep.Slices
import Derived.Deep.Fields
import Derived.ChangeSame
import Derived.ChangeOld
import Derived.ShutString
namespace Go.Proofs.Ytoopngnmdgcklaa
open Go.ChangeShapes Go.WideShapes Go.ChangeAt Go.RowKit Go.Deep

/-! ### how much a reading holds -/
section
variable {H : Type}
theorem bulk_pos (d : DataW H) : 1 ≤ Rows.uptoBulk d := by
  cases d with
  | lit v => cases v <;> simp [Rows.uptoBulk]
  | _ => simp [Rows.uptoBulk]
theorem bulk_mem {d : DataW H} : ∀ {l : List (DataW H)}, d ∈ l → Rows.uptoBulk d ≤ Rows.uptoBulkAll l
  | [], h => by cases h
  | e :: r, h => by
    rw [Rows.uptoBulkAll]
    rcases List.mem_cons.1 h with rfl | h
    · omega
    · have := bulk_mem h; omega
theorem bulk_len : ∀ l : List (DataW H), l.length ≤ Rows.uptoBulkAll l
  | [] => Nat.zero_le _
  | e :: r => by
    rw [Rows.uptoBulkAll]
    have := bulk_pos e
    have := bulk_len r
    simp only [List.length_cons]; omega
end
def BA (n : Nat) (l : List Arg) : Prop := l.length ≤ n
def BX (n : Nat) (l : List Xtor) : Prop := l.length ≤ n ∧ ∀ x ∈ l, BA n x.args
def BD (n : Nat) (l : List Decl) : Prop := l.length ≤ n ∧ ∀ d ∈ l, BX n d.xtors
theorem BA.mono {n m : Nat} {l : List Arg} (h : BA n l) (k : n ≤ m) : BA m l := Nat.le_trans h k
theorem BX.mono {n m : Nat} {l : List Xtor} (h : BX n l) (k : n ≤ m) : BX m l := ⟨Nat.le_trans h.1 k, fun x hx => (h.2 x hx).mono k⟩

def shapeOf (P : Program) (t : TypeId) : Option (List (TypeId × Nat)) := (P.underlying t).bind fun k => match k with
  | .struct fs => some (fs.toList.map fun f => (f.type, f.offset))
  | _ => none
theorem Try.shape50 : shapeOf Try.prog 50 = some [(3, 0), (4, 1)] := by kernel_rfl
theorem Try.shape45 : shapeOf Try.prog 45 = some [(9, 0), (43, 1)] := by kernel_rfl
theorem Try.shape48 : shapeOf Try.prog 48 = some [(9, 0), (4, 1), (46, 2)] := by kernel_rfl
theorem Try.cells50 : Try.prog.cellsOf 50 = 2 := by kernel_rfl
theorem Try.cells45 : Try.prog.cellsOf 45 = 2 := by kernel_rfl
theorem Try.cells48 : Try.prog.cellsOf 48 = 3 := by kernel_rfl
theorem Try.cells3 : Try.prog.cellsOf 3 = 1 := by kernel_rfl
theorem Try.cells4 : Try.prog.cellsOf 4 = 1 := by kernel_rfl
theorem Try.cells9 : Try.prog.cellsOf 9 = 1 := by kernel_rfl
theorem Try.cells43 : Try.prog.cellsOf 43 = 1 := by kernel_rfl
theorem Try.cells46 : Try.prog.cellsOf 46 = 1 := by kernel_rfl
theorem Try.u43 : Try.prog.underlying 43 = some (.slice 50) := by kernel_rfl
theorem Try.u46 : Try.prog.underlying 46 = some (.slice 45) := by kernel_rfl
theorem Try.u22 : Try.prog.underlying 22 = some (.slice 48) := by kernel_rfl
theorem Try.u3 : Try.prog.underlying 3 = some (.int .i64) := by kernel_rfl
theorem Try.u4 : Try.prog.underlying 4 = some .bool := by kernel_rfl
theorem Try.u9 : Try.prog.underlying 9 = some .string := by kernel_rfl

section
variable {H : Type} {enc : TypeId × Value → H} {P : Program} {w : World} {base : Nat} {spare : Nat → Bool} {held : Bool}
theorem fields_of {t : TypeId} {L : List (TypeId × Nat)} {fuel : Nat} {cs : List Value} {x : DataW H × List MemPlace} (hs : shapeOf P t = some L) (h : DataW.trod enc P w base spare held fuel t cs = some x) :
    cs.length = P.cellsOf t ∧ ∀ (j : Nat) (ty off : Nat), L[j]? = some (ty, off) → ∃ n y, DataW.trod enc P w base spare held n ty ((cs.drop off).take (P.cellsOf ty)) = some y ∧ Rows.uptoBulk y.1 ≤ Rows.uptoBulk x.1 := by
  unfold shapeOf at hs
  cases hu : P.underlying t with
  | none => rw [hu] at hs; cases hs
  | some k =>
    rw [hu] at hs
    cases k <;> try (cases hs; done)
    rename_i fs
    have hL : fs.toList.map (fun f => (f.type, f.offset)) = L := by simpa using hs
    obtain ⟨ys, n, _, hyx, hlen, hyl, hf⟩ := DataW.trod_struct hu h
    refine ⟨hlen, fun j ty off hj => ?_⟩
    rw [← hL, List.getElem?_map] at hj
    obtain ⟨f, hf0, he⟩ := Option.map_eq_some_iff.1 hj
    cases he
    have hjf : fs[j]? = some f := by simpa using hf0
    have hjl : j < fs.size := (Array.getElem?_eq_some_iff.1 hjf).1
    have h1 := hf j f hjf
    have hys : ys[j]? = some (ys[j]'(by omega)) := List.getElem?_eq_getElem (by omega)
    refine ⟨n, _, h1.trans hys, ?_⟩
    subst hyx
    show _ ≤ Rows.uptoBulk (.agg (ys.map (·.1)))
    rw [Rows.uptoBulk]
    have := bulk_mem (List.mem_map.2 ⟨ys[j]'(by omega), List.getElem_mem _, rfl⟩ : (ys[j]'(by omega)).1 ∈ ys.map (·.1))
    omega
theorem list_of {α : Type} {P : Nat → α → Prop} : ∀ n, (∀ i, i < n → ∃ x, P i x) → ∃ l : List α, l.length = n ∧ ∀ i x, l[i]? = some x → P i x
  | 0, _ => ⟨[], rfl, fun i x h => by simp at h⟩
  | n + 1, h => by
    obtain ⟨l, hl, hp⟩ := list_of n (fun i hi => h i (by omega))
    obtain ⟨x, hx⟩ := h n (by omega)
    refine ⟨l ++ [x], by simp [hl], fun i y hy => ?_⟩
    by_cases hi : i < l.length
    · rw [List.getElem?_append_left hi] at hy
      exact hp i y hy
    · have hin : i = l.length := by
        have := (List.getElem?_eq_some_iff.1 hy).1
        simp at this
        omega
      subst hin
      simp at hy
      subst hy
      rw [hl]; exact hx
theorem add_none (b o k : Nat) : (⟨b, o, none⟩ : Addr).add k = ⟨b, o + k, none⟩ := by
  by_cases hk : k = 0 <;> simp [Addr.add, hk]
/-- The elements of a slice, one by one: the cells of each and that it reads. -/
theorem elems_of {t e : TypeId} {fuel : Nat} {cs : List Value} {x : DataW H × List MemPlace} (ht : P.underlying t = some (.slice e)) (hpos : 0 < P.cellsOf e) (h : DataW.trod enc P w base spare held fuel t cs = some x) :
    ∃ (A : Option Addr) (len cap : Nat), cs = [.slice A len cap] ∧ len ≤ cap ∧ cap ≤ maxLen ∧ len ≤ Rows.uptoBulk x.1 ∧ ∀ i, i < len → ∃ (b o : Nat) (cs' : List Value) (n : Nat) (y : DataW H × List MemPlace), A = some ⟨b, o, none⟩ ∧ cs'.length = P.cellsOf e ∧
      (∀ k, k < P.cellsOf e → w.cell? ⟨b, o + (i * P.cellsOf e + k), none⟩ = cs'[k]?) ∧ DataW.trod enc P w base spare held n e cs' = some y ∧ Rows.uptoBulk y.1 ≤ Rows.uptoBulk x.1 := by
  rcases open_slice ht h with ⟨rfl, _⟩ | ⟨a, len, cap, m, n, D, Pl, rfl, _, hl, hm, hmm, hx, hi⟩
  · exact ⟨none, 0, 0, rfl, Nat.le_refl _, Nat.zero_le _, Nat.zero_le _, fun i hi => by omega⟩
  · subst hx
    have hbk : Rows.uptoBulk (.slice ((List.range len).map D) ((List.range (m - len)).map fun j => D (len + j))) = Rows.uptoBulkAll ((List.range len).map D) + Rows.uptoBulkAll ((List.range (m - len)).map fun j => D (len + j)) + 1 := by rw [Rows.uptoBulk]
    have hln := bulk_len ((List.range len).map D)
    rw [List.length_map, List.length_range] at hln
    refine ⟨some a, len, cap, rfl, hl, hm, (by show len ≤ Rows.uptoBulk (.slice _ _); omega), fun i hlt => ?_⟩
    have hsp : a.spot = none := by
      obtain ⟨cs', hc, _⟩ := hi 0 (by split at hmm <;> omega)
      obtain ⟨_, hcl, hat⟩ := World.cells?_some hc
      have h1 := hat 0 hpos
      rw [add_add, List.getElem?_eq_getElem (by omega)] at h1
      have := World.cell?_spot h1
      simpa [Addr.add] using this
    obtain ⟨cs', hc, ht'⟩ := hi i (by split at hmm <;> omega)
    obtain ⟨_, hcl, hat⟩ := World.cells?_some hc
    obtain ⟨b, o, s⟩ := a
    obtain rfl : s = none := hsp
    refine ⟨b, o, cs', n, _, rfl, hcl, fun k hk => (by rw [← hat k hk, add_add, add_none]), ht', ?_⟩
    show Rows.uptoBulk (D i) ≤ Rows.uptoBulk (.slice _ _)
    have := bulk_mem (List.mem_map.2 ⟨i, List.mem_range.2 hlt, rfl⟩ : D i ∈ (List.range len).map D)
    omega
theorem take_one {cs : List Value} {k : Nat} {v : Value} (h : (cs.drop k).take 1 = [v]) : cs[k]? = some v := by
  have h1 : ((cs.drop k).take 1)[0]? = some v := by rw [h]; rfl
  rw [List.getElem?_take] at h1
  simp at h1
  exact h1
end
section
variable {H : Type} {enc : TypeId × Value → H} {w : World} {base : Nat} {spare : Nat → Bool} {held : Bool}
theorem open_args {fuel : Nat} {v : Value} {x : DataW H × List MemPlace} (h : DataW.trod enc Try.prog w base spare held fuel 43 [v] = some x) : ∃ l, RArgs w v l ∧ BA (Rows.uptoBulk x.1) l := by
  obtain ⟨A, len, cap, hcs, hl, hm, hbl, hi⟩ := elems_of Try.u43 (by rw [Try.cells50]; decide) h
  obtain rfl : v = .slice A len cap := by simpa using hcs
  have hex : ∀ i, i < len → ∃ a : Arg, ∃ b o, A = some ⟨b, o, none⟩ ∧ b < w.heap.size ∧ w.cell? ⟨b, o + i * 2, none⟩ = some (.int .i64 a.ty) ∧ w.cell? ⟨b, o + i * 2 + 1, none⟩ = some (.bool a.co) := fun i hlt => by
    obtain ⟨b, o, cs', n, y, rfl, hcl, hat, ht, hby⟩ := hi i hlt
    rw [Try.cells50] at hcl hat
    obtain ⟨_, hf⟩ := fields_of Try.shape50 ht
    obtain ⟨n0, y0, h0, hy0⟩ := hf 0 3 0 rfl
    obtain ⟨n1, y1, h1, hy1⟩ := hf 1 4 1 rfl
    rw [Try.cells3] at h0
    rw [Try.cells4] at h1
    obtain ⟨t, e0, _, _⟩ := DataW.trod_int Try.u3 h0
    obtain ⟨co, e1, _⟩ := DataW.trod_bool Try.u4 h1
    have c0 := (hat 0 (by omega)).trans (take_one e0)
    have c1 := (hat 1 (by omega)).trans (take_one e1)
    exact ⟨⟨t, co⟩, b, o, rfl, cell_lt c0, by simpa using c0, by rw [Nat.add_assoc]; exact c1⟩
  obtain ⟨l, hll, hp⟩ := list_of len hex
  subst hll
  exact ⟨l, ⟨A, cap, rfl, hl, hm, hp⟩, hbl⟩
theorem open_xtors {fuel : Nat} {v : Value} {x' : DataW H × List MemPlace} (h : DataW.trod enc Try.prog w base spare held fuel 46 [v] = some x') : ∃ l, RXtors w v l ∧ BX (Rows.uptoBulk x'.1) l := by
  obtain ⟨A, len, cap, hcs, hl, hm, hbl, hi⟩ := elems_of Try.u46 (by rw [Try.cells45]; decide) h
  obtain rfl : v = .slice A len cap := by simpa using hcs
  have hex : ∀ i, i < len → ∃ x : Xtor, ∃ b o va, A = some ⟨b, o, none⟩ ∧ b < w.heap.size ∧ w.cell? ⟨b, o + i * 2, none⟩ = some (.string x.name) ∧ w.cell? ⟨b, o + i * 2 + 1, none⟩ = some va ∧ (RArgs w va x.args ∧ x.name.size ≤ maxLen) ∧ BA (Rows.uptoBulk x'.1) x.args := fun i hlt => by
    obtain ⟨b, o, cs', n, y, rfl, hcl, hat, ht, hby⟩ := hi i hlt
    rw [Try.cells45] at hcl hat
    obtain ⟨_, hf⟩ := fields_of Try.shape45 ht
    obtain ⟨n0, y0, h0, hy0⟩ := hf 0 9 0 rfl
    obtain ⟨n1, y1, h1, hy1⟩ := hf 1 43 1 rfl
    rw [Try.cells9] at h0
    rw [Try.cells43] at h1
    obtain ⟨s, e0, _, hs⟩ := DataW.trod_string Try.u9 h0
    obtain ⟨va, hva⟩ : ∃ va, (cs'.drop 1).take 1 = [va] := by
      match cs', hcl with
      | [p, q], _ => exact ⟨q, rfl⟩
    rw [hva] at h1
    obtain ⟨la, hla, hlb⟩ := open_args h1
    have c0 := (hat 0 (by omega)).trans (take_one e0)
    have c1 := (hat 1 (by omega)).trans (take_one hva)
    exact ⟨⟨s, la⟩, b, o, va, rfl, cell_lt c0, by simpa using c0, by rw [Nat.add_assoc]; exact c1, ⟨hla, hs⟩, hlb.mono (Nat.le_trans hy1 hby)⟩
  obtain ⟨l, hll, hp⟩ := list_of len hex
  subst hll
  refine ⟨l, ⟨A, cap, rfl, hl, hm, fun i y hy => ?_⟩, hbl, fun y hy => ?_⟩
  · obtain ⟨b, o, va, e1, e2, e3, e4, e5, _⟩ := hp i y hy
    exact ⟨b, o, va, e1, e2, e3, e4, e5⟩
  · obtain ⟨i, hi'⟩ := List.mem_iff_getElem?.1 hy
    obtain ⟨b, o, va, e1, e2, e3, e4, _, e6⟩ := hp i y hi'
    exact e6
theorem open_decls {fuel : Nat} {v : Value} {x' : DataW H × List MemPlace} (h : DataW.trod enc Try.prog w base spare held fuel 22 [v] = some x') : ∃ l, RDecls w v l ∧ BD (Rows.uptoBulk x'.1) l := by
  obtain ⟨A, len, cap, hcs, hl, hm, hbl, hi⟩ := elems_of Try.u22 (by rw [Try.cells48]; decide) h
  obtain rfl : v = .slice A len cap := by simpa using hcs
  have hex : ∀ i, i < len → ∃ d : Decl, ∃ b o va, A = some ⟨b, o, none⟩ ∧ b < w.heap.size ∧ w.cell? ⟨b, o + i * 3, none⟩ = some (.string d.name) ∧ w.cell? ⟨b, o + i * 3 + 1, none⟩ = some (.bool d.codata) ∧ w.cell? ⟨b, o + i * 3 + 2, none⟩ = some va ∧ (RXtors w va d.xtors ∧ d.name.size ≤ maxLen) ∧ BX (Rows.uptoBulk x'.1) d.xtors := fun i hlt => by
    obtain ⟨b, o, cs', n, y, rfl, hcl, hat, ht, hby⟩ := hi i hlt
    rw [Try.cells48] at hcl hat
    obtain ⟨_, hf⟩ := fields_of Try.shape48 ht
    obtain ⟨n0, y0, h0, hy0⟩ := hf 0 9 0 rfl
    obtain ⟨n1, y1, h1, hy1⟩ := hf 1 4 1 rfl
    obtain ⟨n2, y2, h2, hy2⟩ := hf 2 46 2 rfl
    rw [Try.cells9] at h0
    rw [Try.cells4] at h1
    rw [Try.cells46] at h2
    obtain ⟨s, e0, _, hs⟩ := DataW.trod_string Try.u9 h0
    obtain ⟨co, e1, _⟩ := DataW.trod_bool Try.u4 h1
    obtain ⟨va, hva⟩ : ∃ va, (cs'.drop 2).take 1 = [va] := by
      match cs', hcl with
      | [p, q, r], _ => exact ⟨r, rfl⟩
    rw [hva] at h2
    obtain ⟨lx, hlx, hlb⟩ := open_xtors h2
    have c0 := (hat 0 (by omega)).trans (take_one e0)
    have c1 := (hat 1 (by omega)).trans (take_one e1)
    have c2 := (hat 2 (by omega)).trans (take_one hva)
    exact ⟨⟨s, co, lx⟩, b, o, va, rfl, cell_lt c0, by simpa using c0, by rw [Nat.add_assoc]; exact c1, by rw [Nat.add_assoc]; exact c2, ⟨hlx, hs⟩, hlb.mono (Nat.le_trans hy2 hby)⟩
  obtain ⟨l, hll, hp⟩ := list_of len hex
  subst hll
  refine ⟨l, ⟨A, cap, rfl, hl, hm, fun i y hy => ?_⟩, hbl, fun y hy => ?_⟩
  · obtain ⟨b, o, va, e1, e2, e3, e4, e5, e6, _⟩ := hp i y hy
    exact ⟨b, o, va, e1, e2, e3, e4, e5, e6⟩
  · obtain ⟨i, hi'⟩ := List.mem_iff_getElem?.1 hy
    obtain ⟨b, o, va, e1, e2, e3, e4, e5, _, e7⟩ := hp i y hi'
    exact e7
end
end Go.Proofs.Ytoopngnmdgcklaa
