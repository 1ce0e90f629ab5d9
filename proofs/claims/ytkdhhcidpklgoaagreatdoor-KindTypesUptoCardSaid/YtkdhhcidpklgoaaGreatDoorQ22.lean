/- How many kinds of variables a node's branches name; what the opening gives. -/
import Derived.Test.YtkdhhcidpklgoaaGreatDoorQ21
import Derived.Test.YtkdhhcidpklgoaaGreatDoorRows
import Derived.ProofKit
import Derived.Deep.Slices
import Derived.Deep.Fields
import Derived.ChangeSame
import Derived.ChangeOld
import Derived.ShutString
import Derived.OpenShut
namespace Go.Proofs.YtkdhhcidpklgoaaGreatDoor
open Go.RowKit Go.Shelf

mutual
def coN : Nd → Nat
  | .mk _ _ _ args brs => coA args + coB brs
def coA : List Nd → Nat
  | [] => 0
  | a :: r => coN a + coA r
def coB : List Br → Nat
  | [] => 0
  | (_, c, t) :: r => c.length + coN t + coB r
end
theorem coN_eq (t : Nd) : coN t = coA t.args + coB t.brs := by cases t; rw [coN]; rfl
theorem coA_mem : ∀ {l : List Nd} {x : Nd}, x ∈ l → coN x ≤ coA l
  | a :: r, x, h => by
    rcases List.mem_cons.1 h with rfl | h
    · simp only [coA]; omega
    · have := coA_mem h; simp only [coA]; omega
theorem coB_mem : ∀ {l : List Br} {x : Br}, x ∈ l → x.2.1.length + coN x.2.2 ≤ coB l
  | (v, c, a) :: r, x, h => by
    rcases List.mem_cons.1 h with rfl | h
    · simp only [coB]; omega
    · have := coB_mem h; simp only [coB]; omega
/-- All the lists of a node are short. -/
structure BC (t : Nd) : Prop where
  bn : BN t
  co : coN t ≤ 1048576
theorem BC.arg {t x : Nd} (h : BC t) (hx : x ∈ t.args) : BC x := ⟨h.bn.arg hx, by have h1 := h.co; rw [coN_eq] at h1; have := coA_mem hx; omega⟩
theorem BC.br {t : Nd} {x : Br} (h : BC t) (hx : x ∈ t.brs) : BC x.2.2 := ⟨h.bn.br hx, by have h1 := h.co; rw [coN_eq] at h1; have := coB_mem hx; omega⟩
theorem BC.len {t : Nd} {x : Br} (h : BC t) (hx : x ∈ t.brs) : x.2.1.length ≤ 1048576 := by have h1 := h.co; rw [coN_eq] at h1; have := coB_mem hx; omega
structure ShX (C : Cg) : Prop where
  c : ShC C
  b : ∀ f ∈ C.funs, BC f.body
end Go.Proofs.YtkdhhcidpklgoaaGreatDoor

/- Arguments opened: integers, nodes, core programs; how much they hold. -/
namespace Go.Proofs.YtkdhhcidpklgoaaGreatDoor
open Go.ChangeShapes Go.WideShapes Go.ChangeAt Go.RowKit Go.Deep

/-! ### how much a reading holds -/
section
variable {H : Type}
theorem bulk_pos (d : DataW H) : 1 ≤ Rows.uptoBulk d := by
  cases d with
  | lit v => cases v <;> simp [Rows.uptoBulk]
  | _ => simp [Rows.uptoBulk]
theorem bulk_mem {d : DataW H} : ∀ {l : List (DataW H)}, d ∈ l → Rows.uptoBulk d ≤ Rows.uptoBulkAll l
  | [], h => by cases h
  | e :: r, h => by
    rw [Rows.uptoBulkAll]
    rcases List.mem_cons.1 h with rfl | h
    · omega
    · have := bulk_mem h; omega
theorem bulk_len : ∀ l : List (DataW H), l.length ≤ Rows.uptoBulkAll l
  | [] => Nat.zero_le _
  | e :: r => by
    rw [Rows.uptoBulkAll]
    have := bulk_pos e
    have := bulk_len r
    simp only [List.length_cons]; omega
theorem bulk_sum {α : Type} (g : α → Nat) (c : Nat) : ∀ (l : List α) (bs : List (DataW H)), l.length = bs.length → (∀ (i : Nat) (a : α) (b : DataW H), l[i]? = some a → bs[i]? = some b → g a ≤ c * Rows.uptoBulk b) → (l.map g).sum ≤ c * Rows.uptoBulkAll bs
  | [], [], _, _ => by simp
  | [], _ :: _, h, _ => by cases h
  | _ :: _, [], h, _ => by cases h
  | a :: l, b :: bs, h, hp => by
    have h1 := hp 0 a b rfl rfl
    have h2 := bulk_sum g c l bs (by simpa using h) (fun i x y hx hy => hp (i + 1) x y (by simpa using hx) (by simpa using hy))
    rw [Rows.uptoBulkAll, List.map_cons, List.sum_cons, Nat.mul_add]; omega
end

def shapeOf (P : Program) (t : TypeId) : Option (List (TypeId × Nat)) := (P.underlying t).bind fun k => match k with
  | .struct fs => some (fs.toList.map fun f => (f.type, f.offset))
  | _ => none
theorem Tryz.shapeN : shapeOf Tryz.prog 36 = some [(3, 0), (3, 1), (3, 2), (33, 3), (34, 4)] := by kernel_rfl
theorem Tryz.shapeB : shapeOf Tryz.prog 97 = some [(31, 0), (95, 1), (36, 2)] := by kernel_rfl
theorem Tryz.shapeF : shapeOf Tryz.prog 53 = some [(9, 0), (51, 1), (31, 2), (36, 3)] := by kernel_rfl
theorem Tryz.shapeC : shapeOf Tryz.prog 25 = some [(22, 0), (23, 1)] := by kernel_rfl
theorem Tryz.shape121 : shapeOf Tryz.prog 114 = some [(3, 0), (4, 1)] := by kernel_rfl
theorem Tryz.shape119 : shapeOf Tryz.prog 55 = some [(9, 0), (51, 1)] := by kernel_rfl
theorem Tryz.shape115 : shapeOf Tryz.prog 58 = some [(9, 0), (4, 1), (56, 2)] := by kernel_rfl
theorem Tryz.cellsN : Tryz.prog.cellsOf 36 = 5 := by kernel_rfl
theorem Tryz.cellsB : Tryz.prog.cellsOf 97 = 7 := by kernel_rfl
theorem Tryz.cellsF : Tryz.prog.cellsOf 53 = 8 := by kernel_rfl
theorem Tryz.cellsC : Tryz.prog.cellsOf 25 = 2 := by kernel_rfl
theorem Tryz.cellsLN : Tryz.prog.cellsOf 33 = 1 := by kernel_rfl
theorem Tryz.cellsLB : Tryz.prog.cellsOf 34 = 1 := by kernel_rfl
theorem Tryz.cellsLF : Tryz.prog.cellsOf 23 = 1 := by kernel_rfl
theorem Tryz.cellsLI : Tryz.prog.cellsOf 31 = 1 := by kernel_rfl
theorem Tryz.cellsLO : Tryz.prog.cellsOf 95 = 1 := by kernel_rfl
theorem Tryz.cells22 : Tryz.prog.cellsOf 22 = 1 := by kernel_rfl
theorem Tryz.cells117 : Tryz.prog.cellsOf 51 = 1 := by kernel_rfl
theorem Tryz.cells113 : Tryz.prog.cellsOf 56 = 1 := by kernel_rfl
theorem Tryz.cells121 : Tryz.prog.cellsOf 114 = 2 := by kernel_rfl
theorem Tryz.cells119 : Tryz.prog.cellsOf 55 = 2 := by kernel_rfl
theorem Tryz.cells115 : Tryz.prog.cellsOf 58 = 3 := by kernel_rfl
theorem Tryz.cells3 : Tryz.prog.cellsOf 3 = 1 := by kernel_rfl
theorem Tryz.cells4 : Tryz.prog.cellsOf 4 = 1 := by kernel_rfl
theorem Tryz.cells9 : Tryz.prog.cellsOf 9 = 1 := by kernel_rfl
theorem Tryz.uLN : Tryz.prog.underlying 33 = some (.slice 36) := by kernel_rfl
theorem Tryz.uLB : Tryz.prog.underlying 34 = some (.slice 97) := by kernel_rfl
theorem Tryz.uLF : Tryz.prog.underlying 23 = some (.slice 53) := by kernel_rfl
theorem Tryz.uLI : Tryz.prog.underlying 31 = some (.slice 3) := by kernel_rfl
theorem Tryz.uLO : Tryz.prog.underlying 95 = some (.slice 4) := by kernel_rfl
theorem Tryz.u22 : Tryz.prog.underlying 22 = some (.slice 58) := by kernel_rfl
theorem Tryz.u117 : Tryz.prog.underlying 51 = some (.slice 114) := by kernel_rfl
theorem Tryz.u113 : Tryz.prog.underlying 56 = some (.slice 55) := by kernel_rfl
theorem Tryz.uA2 : Tryz.prog.underlying 32 = some (.array 2 31) := by kernel_rfl
theorem Tryz.cellsA2 : Tryz.prog.cellsOf 32 = 2 := by kernel_rfl
theorem Tryz.u3 : Tryz.prog.underlying 3 = some (.int .i64) := by kernel_rfl
theorem Tryz.u4 : Tryz.prog.underlying 4 = some .bool := by kernel_rfl
theorem Tryz.u9 : Tryz.prog.underlying 9 = some .string := by kernel_rfl

section
variable {H : Type} {enc : TypeId × Value → H} {P : Program} {w : World} {base : Nat} {spare : Nat → Bool} {held : Bool}
/-- The fields of a struct, one by one: how each reads, and how much all hold together. -/
theorem fields_of {t : TypeId} {L : List (TypeId × Nat)} {fuel : Nat} {cs : List Value} {x : DataW H × List MemPlace} (hs : shapeOf P t = some L) (h : DataW.trod enc P w base spare held fuel t cs = some x) :
    cs.length = P.cellsOf t ∧ ∃ bs : List (DataW H), bs.length = L.length ∧ Rows.uptoBulkAll bs + 1 ≤ Rows.uptoBulk x.1 ∧ ∀ (j : Nat) (ty off : Nat), L[j]? = some (ty, off) → ∃ n y, DataW.trod enc P w base spare held n ty ((cs.drop off).take (P.cellsOf ty)) = some y ∧ bs[j]? = some y.1 := by
  unfold shapeOf at hs
  cases hu : P.underlying t with
  | none => rw [hu] at hs; cases hs
  | some k =>
    rw [hu] at hs
    cases k <;> try (cases hs; done)
    rename_i fs
    have hL : fs.toList.map (fun f => (f.type, f.offset)) = L := by simpa using hs
    obtain ⟨ys, n, _, hyx, hlen, hyl, hf⟩ := DataW.trod_struct hu h
    refine ⟨hlen, ys.map (·.1), ?_, ?_, fun j ty off hj => ?_⟩
    · rw [← hL]; simpa using hyl
    · subst hyx
      show _ ≤ Rows.uptoBulk (.agg (ys.map (·.1)))
      rw [Rows.uptoBulk]; exact Nat.le_refl _
    rw [← hL, List.getElem?_map] at hj
    obtain ⟨f, hf0, he⟩ := Option.map_eq_some_iff.1 hj
    cases he
    have hjf : fs[j]? = some f := by simpa using hf0
    have hjl : j < fs.size := (Array.getElem?_eq_some_iff.1 hjf).1
    have h1 := hf j f hjf
    have hys : ys[j]? = some (ys[j]'(by omega)) := List.getElem?_eq_getElem (by omega)
    exact ⟨n, _, h1.trans hys, by rw [List.getElem?_map, hys]; rfl⟩
theorem okWide_shape {t : TypeId} {L : List (TypeId × Nat)} {v : Value} (hs : shapeOf P t = some L) (h : Value.okWide P w .any base t v) : ∃ cs, v = .agg cs := by
  unfold shapeOf at hs
  cases hu : P.underlying t with
  | none => rw [hu] at hs; cases hs
  | some k =>
    rw [hu] at hs
    cases k <;> try (cases hs; done)
    obtain ⟨cs, h1, _⟩ := okWide_struct hu h
    exact ⟨cs, h1⟩
theorem list_of {α : Type} {P : Nat → α → Prop} : ∀ n, (∀ i, i < n → ∃ x, P i x) → ∃ l : List α, l.length = n ∧ ∀ i x, l[i]? = some x → P i x
  | 0, _ => ⟨[], rfl, fun i x h => by simp at h⟩
  | n + 1, h => by
    obtain ⟨l, hl, hp⟩ := list_of n (fun i hi => h i (by omega))
    obtain ⟨x, hx⟩ := h n (by omega)
    refine ⟨l ++ [x], by simp [hl], fun i y hy => ?_⟩
    by_cases hi : i < l.length
    · rw [List.getElem?_append_left hi] at hy
      exact hp i y hy
    · have hin : i = l.length := by
        have := (List.getElem?_eq_some_iff.1 hy).1
        simp at this
        omega
      subst hin
      simp at hy
      subst hy
      rw [hl]; exact hx
theorem add_none' (b o k : Nat) : (⟨b, o, none⟩ : Addr).add k = ⟨b, o + k, none⟩ := by
  by_cases hk : k = 0 <;> simp [Addr.add, hk]
/-- The elements of a slice, one by one: the cells of each and how it reads, and how much all hold together. -/
theorem elems_of {t e : TypeId} {fuel : Nat} {cs : List Value} {x : DataW H × List MemPlace} (ht : P.underlying t = some (.slice e)) (hpos : 0 < P.cellsOf e) (h : DataW.trod enc P w base spare held fuel t cs = some x) :
    ∃ (A : Option Addr) (len cap : Nat) (bs : List (DataW H)), cs = [.slice A len cap] ∧ len ≤ cap ∧ cap ≤ maxLen ∧ bs.length = len ∧ Rows.uptoBulkAll bs + 1 ≤ Rows.uptoBulk x.1 ∧ ∀ i, i < len → ∃ (b o : Nat) (cs' : List Value) (n : Nat) (y : DataW H × List MemPlace), A = some ⟨b, o, none⟩ ∧ cs'.length = P.cellsOf e ∧
      (∀ k, k < P.cellsOf e → w.cell? ⟨b, o + (i * P.cellsOf e + k), none⟩ = cs'[k]?) ∧ DataW.trod enc P w base spare held n e cs' = some y ∧ bs[i]? = some y.1 := by
  rcases open_slice ht h with ⟨rfl, hx⟩ | ⟨a, len, cap, m, n, D, Pl, rfl, _, hl, hm, hmm, hx, hi⟩
  · exact ⟨none, 0, 0, [], rfl, Nat.le_refl _, Nat.zero_le _, rfl, by subst hx; simp [Rows.uptoBulk, Rows.uptoBulkAll], fun i hi => by omega⟩
  · subst hx
    have hbk : Rows.uptoBulk (.slice ((List.range len).map D) ((List.range (m - len)).map fun j => D (len + j))) = Rows.uptoBulkAll ((List.range len).map D) + Rows.uptoBulkAll ((List.range (m - len)).map fun j => D (len + j)) + 1 := by rw [Rows.uptoBulk]
    refine ⟨some a, len, cap, (List.range len).map D, rfl, hl, hm, by simp, (by show _ ≤ Rows.uptoBulk (.slice _ _); omega), fun i hlt => ?_⟩
    have hsp : a.spot = none := by
      obtain ⟨cs', hc, _⟩ := hi 0 (by split at hmm <;> omega)
      obtain ⟨_, hcl, hat⟩ := World.cells?_some hc
      have h1 := hat 0 hpos
      rw [add_add, List.getElem?_eq_getElem (by omega)] at h1
      have := World.cell?_spot h1
      simpa [Addr.add] using this
    obtain ⟨cs', hc, ht'⟩ := hi i (by split at hmm <;> omega)
    obtain ⟨_, hcl, hat⟩ := World.cells?_some hc
    obtain ⟨b, o, s⟩ := a
    obtain rfl : s = none := hsp
    refine ⟨b, o, cs', n, _, rfl, hcl, fun k hk => (by rw [← hat k hk, add_add, add_none']), ht', ?_⟩
    rw [List.getElem?_map, List.getElem?_range hlt]; rfl
theorem take_one {cs : List Value} {k : Nat} {v : Value} (h : (cs.drop k).take 1 = [v]) : cs[k]? = some v := by
  have h1 : ((cs.drop k).take 1)[0]? = some v := by rw [h]; rfl
  rw [List.getElem?_take] at h1
  simp at h1
  exact h1
theorem one_of {cs : List Value} {k : Nat} (h : k < cs.length) : (cs.drop k).take 1 = [cs[k]] := by
  rw [List.drop_eq_getElem_cons h]; rfl
end

def BA (n : Nat) (l : List Arg) : Prop := l.length ≤ n ∧ ∀ a ∈ l, ok64 a.ty
def BX (n : Nat) (l : List Xtor) : Prop := l.length ≤ n ∧ ∀ x ∈ l, BA n x.args
def BD (n : Nat) (l : List Decl) : Prop := l.length ≤ n ∧ ∀ d ∈ l, BX n d.xtors
theorem BA.mono {n m : Nat} {l : List Arg} (h : BA n l) (k : n ≤ m) : BA m l := ⟨Nat.le_trans h.1 k, h.2⟩
theorem BX.mono {n m : Nat} {l : List Xtor} (h : BX n l) (k : n ≤ m) : BX m l := ⟨Nat.le_trans h.1 k, fun x hx => (h.2 x hx).mono k⟩
theorem BD.mono {n m : Nat} {l : List Decl} (h : BD n l) (k : n ≤ m) : BD m l := ⟨Nat.le_trans h.1 k, fun d hd => (h.2 d hd).mono k⟩
section
variable {H : Type} {enc : TypeId × Value → H} {w : World} {base : Nat} {spare : Nat → Bool} {held : Bool}
theorem open_args {fuel : Nat} {v : Value} {x : DataW H × List MemPlace} (h : DataW.trod enc Tryz.prog w base spare held fuel 51 [v] = some x) : ∃ l, RArgs w v l ∧ BA (Rows.uptoBulk x.1) l := by
  obtain ⟨A, len, cap, bs, hcs, hl, hm, hbl, hbk, hi⟩ := elems_of Tryz.u117 (by rw [Tryz.cells121]; decide) h
  obtain rfl : v = .slice A len cap := by simpa using hcs
  have hex : ∀ i, i < len → ∃ a : Arg, (∃ b o, A = some ⟨b, o, none⟩ ∧ b < w.heap.size ∧ w.cell? ⟨b, o + i * 2, none⟩ = some (.int .i64 a.ty) ∧ w.cell? ⟨b, o + i * 2 + 1, none⟩ = some (.bool a.co)) ∧ ok64 a.ty := fun i hlt => by
    obtain ⟨b, o, cs', n, y, rfl, hcl, hat, ht, -⟩ := hi i hlt
    rw [Tryz.cells121] at hcl hat
    obtain ⟨_, _, _, _, hf⟩ := fields_of Tryz.shape121 ht
    obtain ⟨n0, y0, h0, -⟩ := hf 0 3 0 rfl
    obtain ⟨n1, y1, h1, -⟩ := hf 1 4 1 rfl
    rw [Tryz.cells3] at h0
    rw [Tryz.cells4] at h1
    obtain ⟨t, e0, _, ht64⟩ := DataW.trod_int Tryz.u3 h0
    obtain ⟨co, e1, _⟩ := DataW.trod_bool Tryz.u4 h1
    have c0 := (hat 0 (by omega)).trans (take_one e0)
    have c1 := (hat 1 (by omega)).trans (take_one e1)
    exact ⟨⟨t, co⟩, ⟨b, o, rfl, cell_lt c0, by simpa using c0, by rw [Nat.add_assoc]; exact c1⟩, ht64⟩
  obtain ⟨l, hll, hp⟩ := list_of len hex
  subst hll
  have := bulk_len bs
  exact ⟨l, ⟨A, cap, rfl, hl, hm, fun i a ha => (hp i a ha).1⟩, by omega, fun a ha => by
    obtain ⟨i, hi'⟩ := List.mem_iff_getElem?.1 ha
    exact (hp i a hi').2⟩
theorem open_xtors {fuel : Nat} {v : Value} {x' : DataW H × List MemPlace} (h : DataW.trod enc Tryz.prog w base spare held fuel 56 [v] = some x') : ∃ l, RXtors w v l ∧ BX (Rows.uptoBulk x'.1) l := by
  obtain ⟨A, len, cap, bs, hcs, hl, hm, hbl, hbk, hi⟩ := elems_of Tryz.u113 (by rw [Tryz.cells119]; decide) h
  obtain rfl : v = .slice A len cap := by simpa using hcs
  have hex : ∀ i, i < len → ∃ x : Xtor, ∃ b o va, A = some ⟨b, o, none⟩ ∧ b < w.heap.size ∧ w.cell? ⟨b, o + i * 2, none⟩ = some (.string x.name) ∧ w.cell? ⟨b, o + i * 2 + 1, none⟩ = some va ∧ (RArgs w va x.args ∧ x.name.size ≤ maxLen) ∧ BA (Rows.uptoBulk x'.1) x.args := fun i hlt => by
    obtain ⟨b, o, cs', n, y, rfl, hcl, hat, ht, hy⟩ := hi i hlt
    rw [Tryz.cells119] at hcl hat
    have hby := bulk_mem (List.mem_of_getElem? hy)
    obtain ⟨_, zs, -, hzk, hf⟩ := fields_of Tryz.shape119 ht
    obtain ⟨n0, y0, h0, -⟩ := hf 0 9 0 rfl
    obtain ⟨n1, y1, h1, g1⟩ := hf 1 51 1 rfl
    have hy1 := bulk_mem (List.mem_of_getElem? g1)
    rw [Tryz.cells9] at h0
    rw [Tryz.cells117] at h1
    obtain ⟨s, e0, _, hs⟩ := DataW.trod_string Tryz.u9 h0
    obtain ⟨va, hva⟩ : ∃ va, (cs'.drop 1).take 1 = [va] := ⟨_, one_of (by omega)⟩
    rw [hva] at h1
    obtain ⟨la, hla, hlb⟩ := open_args h1
    have c0 := (hat 0 (by omega)).trans (take_one e0)
    have c1 := (hat 1 (by omega)).trans (take_one hva)
    exact ⟨⟨s, la⟩, b, o, va, rfl, cell_lt c0, by simpa using c0, by rw [Nat.add_assoc]; exact c1, ⟨hla, hs⟩, hlb.mono (by omega)⟩
  obtain ⟨l, hll, hp⟩ := list_of len hex
  subst hll
  have := bulk_len bs
  refine ⟨l, ⟨A, cap, rfl, hl, hm, fun i y hy => ?_⟩, by omega, fun y hy => ?_⟩
  · obtain ⟨b, o, va, e1, e2, e3, e4, e5, _⟩ := hp i y hy
    exact ⟨b, o, va, e1, e2, e3, e4, e5⟩
  · obtain ⟨i, hi'⟩ := List.mem_iff_getElem?.1 hy
    obtain ⟨b, o, va, e1, e2, e3, e4, _, e6⟩ := hp i y hi'
    exact e6
theorem open_decls {fuel : Nat} {v : Value} {x' : DataW H × List MemPlace} (h : DataW.trod enc Tryz.prog w base spare held fuel 22 [v] = some x') : ∃ l, RDecls w v l ∧ BD (Rows.uptoBulk x'.1) l := by
  obtain ⟨A, len, cap, bs, hcs, hl, hm, hbl, hbk, hi⟩ := elems_of Tryz.u22 (by rw [Tryz.cells115]; decide) h
  obtain rfl : v = .slice A len cap := by simpa using hcs
  have hex : ∀ i, i < len → ∃ d : Decl, ∃ b o va, A = some ⟨b, o, none⟩ ∧ b < w.heap.size ∧ w.cell? ⟨b, o + i * 3, none⟩ = some (.string d.name) ∧ w.cell? ⟨b, o + i * 3 + 1, none⟩ = some (.bool d.codata) ∧ w.cell? ⟨b, o + i * 3 + 2, none⟩ = some va ∧ (RXtors w va d.xtors ∧ d.name.size ≤ maxLen) ∧ BX (Rows.uptoBulk x'.1) d.xtors := fun i hlt => by
    obtain ⟨b, o, cs', n, y, rfl, hcl, hat, ht, hy⟩ := hi i hlt
    rw [Tryz.cells115] at hcl hat
    have hby := bulk_mem (List.mem_of_getElem? hy)
    obtain ⟨_, zs, -, hzk, hf⟩ := fields_of Tryz.shape115 ht
    obtain ⟨n0, y0, h0, -⟩ := hf 0 9 0 rfl
    obtain ⟨n1, y1, h1, -⟩ := hf 1 4 1 rfl
    obtain ⟨n2, y2, h2, g2⟩ := hf 2 56 2 rfl
    have hy2 := bulk_mem (List.mem_of_getElem? g2)
    rw [Tryz.cells9] at h0
    rw [Tryz.cells4] at h1
    rw [Tryz.cells113] at h2
    obtain ⟨s, e0, _, hs⟩ := DataW.trod_string Tryz.u9 h0
    obtain ⟨co, e1, _⟩ := DataW.trod_bool Tryz.u4 h1
    obtain ⟨va, hva⟩ : ∃ va, (cs'.drop 2).take 1 = [va] := ⟨_, one_of (by omega)⟩
    rw [hva] at h2
    obtain ⟨lx, hlx, hlb⟩ := open_xtors h2
    have c0 := (hat 0 (by omega)).trans (take_one e0)
    have c1 := (hat 1 (by omega)).trans (take_one e1)
    have c2 := (hat 2 (by omega)).trans (take_one hva)
    exact ⟨⟨s, co, lx⟩, b, o, va, rfl, cell_lt c0, by simpa using c0, by rw [Nat.add_assoc]; exact c1, by rw [Nat.add_assoc]; exact c2, ⟨hlx, hs⟩, hlb.mono (by omega)⟩
  obtain ⟨l, hll, hp⟩ := list_of len hex
  subst hll
  have := bulk_len bs
  refine ⟨l, ⟨A, cap, rfl, hl, hm, fun i y hy => ?_⟩, by omega, fun y hy => ?_⟩
  · obtain ⟨b, o, va, e1, e2, e3, e4, e5, e6, _⟩ := hp i y hy
    exact ⟨b, o, va, e1, e2, e3, e4, e5, e6⟩
  · obtain ⟨i, hi'⟩ := List.mem_iff_getElem?.1 hy
    obtain ⟨b, o, va, e1, e2, e3, e4, e5, _, e7⟩ := hp i y hi'
    exact e7
theorem open_ints {fuel : Nat} {v : Value} {x : DataW H × List MemPlace} (h : DataW.trod enc Tryz.prog w base spare held fuel 31 [v] = some x) : ∃ l, RInts w v l ∧ l.length + 1 ≤ Rows.uptoBulk x.1 := by
  obtain ⟨A, len, cap, bs, hcs, hl, hm, hbl, hbk, hi⟩ := elems_of Tryz.uLI (by rw [Tryz.cells3]; decide) h
  obtain rfl : v = .slice A len cap := by simpa using hcs
  have hex : ∀ i, i < len → ∃ a : Int, ∃ b o, A = some ⟨b, o, none⟩ ∧ b < w.heap.size ∧ w.cell? ⟨b, o + i, none⟩ = some (.int .i64 a) ∧ ok64 a := fun i hlt => by
    obtain ⟨b, o, cs', n, y, rfl, hcl, hat, ht, -⟩ := hi i hlt
    rw [Tryz.cells3] at hcl hat
    obtain ⟨t, e0, _, hw⟩ := DataW.trod_int Tryz.u3 ht
    have c0 := hat 0 (by omega)
    subst e0
    exact ⟨t, b, o, rfl, cell_lt c0, by simpa using c0, hw⟩
  obtain ⟨l, hll, hp⟩ := list_of len hex
  subst hll
  have := bulk_len bs
  exact ⟨l, ⟨A, cap, rfl, hl, hm, hp⟩, by omega⟩
theorem open_bools {fuel : Nat} {v : Value} {x : DataW H × List MemPlace} (h : DataW.trod enc Tryz.prog w base spare held fuel 95 [v] = some x) : ∃ l, RBools w v l ∧ l.length + 1 ≤ Rows.uptoBulk x.1 := by
  obtain ⟨A, len, cap, bs, hcs, hl, hm, hbl, hbk, hi⟩ := elems_of Tryz.uLO (by rw [Tryz.cells4]; decide) h
  obtain rfl : v = .slice A len cap := by simpa using hcs
  have hex : ∀ i, i < len → ∃ a : Bool, ∃ b o, A = some ⟨b, o, none⟩ ∧ b < w.heap.size ∧ w.cell? ⟨b, o + i, none⟩ = some (.bool a) := fun i hlt => by
    obtain ⟨b, o, cs', n, y, rfl, hcl, hat, ht, -⟩ := hi i hlt
    rw [Tryz.cells4] at hcl hat
    obtain ⟨t, e0, _⟩ := DataW.trod_bool Tryz.u4 ht
    have c0 := hat 0 (by omega)
    subst e0
    exact ⟨t, b, o, rfl, cell_lt c0, by simpa using c0⟩
  obtain ⟨l, hll, hp⟩ := list_of len hex
  subst hll
  have := bulk_len bs
  exact ⟨l, ⟨A, cap, rfl, hl, hm, hp⟩, by omega⟩
theorem cntA_sum : ∀ l : List Nd, cntA l = (l.map cntN).sum
  | [] => by simp [cntA]
  | a :: r => by simp [cntA, cntA_sum r]
theorem bndA_sum : ∀ l : List Nd, bndA l = (l.map bndN).sum
  | [] => by simp [bndA]
  | a :: r => by simp [bndA, bndA_sum r]
theorem coA_sum : ∀ l : List Nd, coA l = (l.map coN).sum
  | [] => by simp [coA]
  | a :: r => by simp [coA, coA_sum r]
theorem cntB_sum : ∀ l : List Br, cntB l = (l.map fun b => cntN b.2.2).sum
  | [] => by simp [cntB]
  | (v, c, a) :: r => by simp [cntB, cntB_sum r]
theorem bndB_sum : ∀ l : List Br, bndB l = (l.map fun b => b.1.length + bndN b.2.2).sum
  | [] => by simp [bndB]
  | (v, c, a) :: r => by simp [bndB, bndB_sum r]
theorem coB_sum : ∀ l : List Br, coB l = (l.map fun b => b.2.1.length + coN b.2.2).sum
  | [] => by simp [coB]
  | (v, c, a) :: r => by simp [coB, coB_sum r]
/-- How much a node holds at most. -/
structure MuN (n : Nat) (t : Nd) : Prop where
  c : cntN t ≤ n
  b : bndN t ≤ n
  o : coN t ≤ n
set_option maxRecDepth 10000 in
/-- A node, with what it holds in the sense of the second form. -/
theorem open_node : ∀ (N : Nat) (fuel : Nat) (cs : List Value) (x : DataW H × List MemPlace), Rows.uptoBulk x.1 ≤ N → DataW.trod enc Tryz.prog w base spare held fuel 36 cs = some x →
    ∃ t va vb, cs = [.int .i64 t.op, .int .i64 t.n, .int .i64 t.ty, va, vb] ∧ RNd w N t va vb ∧ MuN (Rows.uptoBulk x.1) t := by
  intro N
  induction N with
  | zero => intro fuel cs x hx; have := bulk_pos x.1; omega
  | succ N ih =>
    intro fuel cs x hx h
    obtain ⟨hlen, bs, hbl, hbk, hf⟩ := fields_of Tryz.shapeN h
    rw [Tryz.cellsN] at hlen
    obtain ⟨n0, y0, h0, g0⟩ := hf 0 3 0 rfl
    obtain ⟨n1, y1, h1, g1⟩ := hf 1 3 1 rfl
    obtain ⟨n2, y2, h2, g2⟩ := hf 2 3 2 rfl
    obtain ⟨n3, y3, h3, g3⟩ := hf 3 33 3 rfl
    obtain ⟨n4, y4, h4, g4⟩ := hf 4 34 4 rfl
    match cs, hlen, bs, hbl with
    | [k0, k1, k2, k3, k4], _, [b0, b1, b2, b3, b4], _ =>
      simp only [Tryz.cells3, Tryz.cellsLN, Tryz.cellsLB, List.drop_succ_cons, List.drop_zero, List.take_succ_cons, List.take_zero] at h0 h1 h2 h3 h4
      simp only [List.getElem?_cons_zero, List.getElem?_cons_succ, Option.some.injEq] at g0 g1 g2 g3 g4
      simp only [Rows.uptoBulkAll] at hbk
      obtain ⟨op, e0, -, wop⟩ := DataW.trod_int Tryz.u3 h0
      obtain ⟨nn, e1, -, wn⟩ := DataW.trod_int Tryz.u3 h1
      obtain ⟨ty, e2, -, wty⟩ := DataW.trod_int Tryz.u3 h2
      cases e0; cases e1; cases e2
      have p0 := bulk_pos b0
      have p1 := bulk_pos b1
      have p2 := bulk_pos b2
      obtain ⟨A, la, ca, asl, ea, hla, hma, hlas, hbka, hia⟩ := elems_of Tryz.uLN (by rw [Tryz.cellsN]; decide) h3
      obtain ⟨B, lc, cc, cs', ec, hlc, hmc, hlcs, hbkc, hic⟩ := elems_of Tryz.uLB (by rw [Tryz.cellsB]; decide) h4
      obtain rfl : k3 = .slice A la ca := by simpa using ea
      obtain rfl : k4 = .slice B lc cc := by simpa using ec
      subst g3 g4
      have hexa : ∀ i, i < la → ∃ t : Nd, ∃ b o xa xb y, (A = some ⟨b, o, none⟩ ∧ b < w.heap.size ∧ N5 w b (o + i * 5) t xa xb ∧ RNd w N t xa xb) ∧ asl[i]? = some y ∧ MuN (Rows.uptoBulk y) t := fun i hi => by
        obtain ⟨b, o, q, n, y, rfl, hql, hat, ht, hy⟩ := hia i hi
        rw [Tryz.cellsN] at hql hat
        have hym : Rows.uptoBulk y.1 ≤ N := by
          have := bulk_mem (List.mem_of_getElem? hy)
          omega
        obtain ⟨t, xa, xb, rfl, hr, hu⟩ := ih n q y hym ht
        have c0 := hat 0 (by omega)
        have c1 := hat 1 (by omega)
        have c2 := hat 2 (by omega)
        have c3 := hat 3 (by omega)
        have c4 := hat 4 (by omega)
        simp only [← Nat.add_assoc, Nat.add_zero, List.getElem?_cons_zero, List.getElem?_cons_succ] at c0 c1 c2 c3 c4
        exact ⟨t, b, o, xa, xb, y.1, ⟨rfl, cell_lt c0, ⟨c0, c1, c2, c3, c4⟩, hr⟩, hy, hu⟩
      have hexc : ∀ i, i < lc → ∃ c : Br, ∃ b o vv vc xa xb y, (B = some ⟨b, o, none⟩ ∧ b < w.heap.size ∧ w.cell? ⟨b, o + i * 7, none⟩ = some vv ∧ RInts w vv c.1 ∧ w.cell? ⟨b, o + i * 7 + 1, none⟩ = some vc ∧ RBools w vc c.2.1 ∧ N5 w b (o + i * 7 + 2) c.2.2 xa xb ∧ RNd w N c.2.2 xa xb) ∧ cs'[i]? = some y ∧ (cntN c.2.2 ≤ Rows.uptoBulk y ∧ c.1.length + bndN c.2.2 ≤ Rows.uptoBulk y ∧ c.2.1.length + coN c.2.2 ≤ Rows.uptoBulk y) := fun i hi => by
        obtain ⟨b, o, q, n, y, rfl, hql, hat, ht, hy⟩ := hic i hi
        rw [Tryz.cellsB] at hql hat
        have hym : Rows.uptoBulk y.1 ≤ N := by
          have := bulk_mem (List.mem_of_getElem? hy)
          omega
        obtain ⟨_, zs, hzl, hzk, hz⟩ := fields_of Tryz.shapeB ht
        obtain ⟨m0, z0, r0, s0⟩ := hz 0 31 0 rfl
        obtain ⟨m1, z1, r1, s1⟩ := hz 1 95 1 rfl
        obtain ⟨m2, z2, r2, s2⟩ := hz 2 36 2 rfl
        match q, hql, zs, hzl with
        | [q0, q1, q2, q3, q4, q5, q6], _, [a0, a1, a2], _ =>
          simp only [Tryz.cellsLI, Tryz.cellsLO, Tryz.cellsN, List.drop_succ_cons, List.drop_zero, List.take_succ_cons, List.take_zero] at r0 r1 r2
          simp only [List.getElem?_cons_zero, List.getElem?_cons_succ, Option.some.injEq] at s0 s1 s2
          simp only [Rows.uptoBulkAll] at hzk
          subst s0 s1 s2
          obtain ⟨ns, hns, hnl⟩ := open_ints r0
          obtain ⟨qs, hqs, hql2⟩ := open_bools r1
          obtain ⟨t, xa, xb, ht0, hr, hu⟩ := ih m2 _ z2 (by omega) r2
          have c0 := hat 0 (by omega)
          have c1 := hat 1 (by omega)
          have c2 := hat 2 (by omega)
          have c3 := hat 3 (by omega)
          have c4 := hat 4 (by omega)
          have c5 := hat 5 (by omega)
          have c6 := hat 6 (by omega)
          rw [ht0] at c2 c3 c4 c5 c6
          simp only [← Nat.add_assoc, Nat.add_zero, List.getElem?_cons_zero, List.getElem?_cons_succ] at c0 c1 c2 c3 c4 c5 c6
          have u1 := hu.c; have u2 := hu.b; have u3 := hu.o
          exact ⟨(ns, qs, t), b, o, q0, q1, xa, xb, y.1, ⟨rfl, cell_lt c0, c0, hns, c1, hqs, ⟨c2, c3, c4, c5, c6⟩, hr⟩, hy, by dsimp only; omega, by dsimp only; omega, by dsimp only; omega⟩
      obtain ⟨args, hargs, hpa⟩ := list_of la hexa
      obtain ⟨brs, hbrs, hpc⟩ := list_of lc hexc
      subst hargs hbrs
      refine ⟨.mk op nn ty args brs, _, _, rfl, ⟨⟨wop, wn, wty⟩, ⟨A, ca, rfl, hla, hma, fun i t ht => ?_⟩, ⟨B, cc, rfl, hlc, hmc, fun i c hc => ?_⟩⟩, ?_⟩
      · obtain ⟨b, o, xa, xb, y, hh, -⟩ := hpa i t ht
        exact ⟨b, o, xa, xb, hh⟩
      · obtain ⟨b, o, vv, vc, xa, xb, y, hh, -⟩ := hpc i c hc
        exact ⟨b, o, vv, vc, xa, xb, hh⟩
      · have m1 := bulk_sum cntN 1 args asl hlas.symm (fun i a b ha hb => by
          obtain ⟨_, _, _, _, y, -, hy, hu⟩ := hpa i a ha
          rw [hb] at hy; cases hy; have := hu.c; omega)
        have m2 := bulk_sum bndN 1 args asl hlas.symm (fun i a b ha hb => by
          obtain ⟨_, _, _, _, y, -, hy, hu⟩ := hpa i a ha
          rw [hb] at hy; cases hy; have := hu.b; omega)
        have m3 := bulk_sum coN 1 args asl hlas.symm (fun i a b ha hb => by
          obtain ⟨_, _, _, _, y, -, hy, hu⟩ := hpa i a ha
          rw [hb] at hy; cases hy; have := hu.o; omega)
        have m4 := bulk_sum (fun c : Br => cntN c.2.2) 1 brs cs' hlcs.symm (fun i a b ha hb => by
          obtain ⟨_, _, _, _, _, _, y, -, hy, hu⟩ := hpc i a ha
          rw [hb] at hy; cases hy; omega)
        have m5 := bulk_sum (fun c : Br => c.1.length + bndN c.2.2) 1 brs cs' hlcs.symm (fun i a b ha hb => by
          obtain ⟨_, _, _, _, _, _, y, -, hy, hu⟩ := hpc i a ha
          rw [hb] at hy; cases hy; omega)
        have m6 := bulk_sum (fun c : Br => c.2.1.length + coN c.2.2) 1 brs cs' hlcs.symm (fun i a b ha hb => by
          obtain ⟨_, _, _, _, _, _, y, -, hy, hu⟩ := hpc i a ha
          rw [hb] at hy; cases hy; omega)
        rw [← cntA_sum] at m1; rw [← bndA_sum] at m2; rw [← coA_sum] at m3
        rw [← cntB_sum] at m4; rw [← bndB_sum] at m5; rw [← coB_sum] at m6
        refine ⟨?_, ?_, ?_⟩
        · rw [cntN_eq]; show 1 + (cntA args + cntB brs) ≤ _; omega
        · rw [bndN_eq]; show 1 + (bndA args + bndB brs) ≤ _; omega
        · rw [coN_eq]; show coA args + coB brs ≤ _; omega
def BF (n : Nat) (l : List CF) : Prop := l.length ≤ n ∧ ∀ f ∈ l, BA n f.ps ∧ f.vars.length ≤ n ∧ MuN n f.body
theorem MuN.mono {n m : Nat} {t : Nd} (h : MuN n t) (k : n ≤ m) : MuN m t := ⟨Nat.le_trans h.c k, Nat.le_trans h.b k, Nat.le_trans h.o k⟩
theorem BF.mono {n m : Nat} {l : List CF} (h : BF n l) (k : n ≤ m) : BF m l := ⟨Nat.le_trans h.1 k, fun f hf => ⟨(h.2 f hf).1.mono k, Nat.le_trans (h.2 f hf).2.1 k, (h.2 f hf).2.2.mono k⟩⟩
set_option maxRecDepth 10000 in
theorem open_funs {fuel : Nat} {v : Value} {x' : DataW H × List MemPlace} (h : DataW.trod enc Tryz.prog w base spare held fuel 23 [v] = some x') : ∃ l, RCFs w v l ∧ BF (Rows.uptoBulk x'.1) l := by
  obtain ⟨A, len, cap, bs, hcs, hl, hm, hbl, hbk, hi⟩ := elems_of Tryz.uLF (by rw [Tryz.cellsF]; decide) h
  obtain rfl : v = .slice A len cap := by simpa using hcs
  have hex : ∀ i, i < len → ∃ f : CF, (∃ b o vp vv xa xb k, A = some ⟨b, o, none⟩ ∧ b < w.heap.size ∧ w.cell? ⟨b, o + i * 8, none⟩ = some (.string f.nm) ∧ w.cell? ⟨b, o + i * 8 + 1, none⟩ = some vp ∧ w.cell? ⟨b, o + i * 8 + 2, none⟩ = some vv ∧
      N5 w b (o + i * 8 + 3) f.body xa xb ∧ f.nm.size ≤ maxLen ∧ RArgs w vp f.ps ∧ RInts w vv f.vars ∧ RNd w k f.body xa xb) ∧ (BA (Rows.uptoBulk x'.1) f.ps ∧ f.vars.length ≤ Rows.uptoBulk x'.1 ∧ MuN (Rows.uptoBulk x'.1) f.body) := fun i hlt => by
    obtain ⟨b, o, q, n, y, rfl, hql, hat, ht, hy⟩ := hi i hlt
    rw [Tryz.cellsF] at hql hat
    have hby := bulk_mem (List.mem_of_getElem? hy)
    obtain ⟨_, zs, -, hzk, hf⟩ := fields_of Tryz.shapeF ht
    obtain ⟨n0, y0, h0, -⟩ := hf 0 9 0 rfl
    obtain ⟨n1, y1, h1, g1⟩ := hf 1 51 1 rfl
    obtain ⟨n2, y2, h2, g2⟩ := hf 2 31 2 rfl
    obtain ⟨n3, y3, h3, g3⟩ := hf 3 36 3 rfl
    have hy1 := bulk_mem (List.mem_of_getElem? g1)
    have hy2 := bulk_mem (List.mem_of_getElem? g2)
    have hy3 := bulk_mem (List.mem_of_getElem? g3)
    match q, hql with
    | [q0, q1, q2, q3, q4, q5, q6, q7], _ =>
      simp only [Tryz.cells9, Tryz.cells117, Tryz.cellsLI, Tryz.cellsN, List.drop_succ_cons, List.drop_zero, List.take_succ_cons, List.take_zero] at h0 h1 h2 h3
      obtain ⟨s, e0, _, hs⟩ := DataW.trod_string Tryz.u9 h0
      cases e0
      obtain ⟨ps, hps, hpl⟩ := open_args h1
      obtain ⟨vs, hvs, hvl⟩ := open_ints h2
      obtain ⟨t, xa, xb, ht0, hr, hu⟩ := open_node _ n3 _ y3 (Nat.le_refl _) h3
      have c0 := hat 0 (by omega)
      have c1 := hat 1 (by omega)
      have c2 := hat 2 (by omega)
      have c3 := hat 3 (by omega)
      have c4 := hat 4 (by omega)
      have c5 := hat 5 (by omega)
      have c6 := hat 6 (by omega)
      have c7 := hat 7 (by omega)
      rw [ht0] at c3 c4 c5 c6 c7
      simp only [← Nat.add_assoc, Nat.add_zero, List.getElem?_cons_zero, List.getElem?_cons_succ] at c0 c1 c2 c3 c4 c5 c6 c7
      exact ⟨⟨s, ps, vs, t⟩, ⟨b, o, _, _, xa, xb, _, rfl, cell_lt c0, c0, c1, c2, ⟨c3, c4, c5, c6, c7⟩, hs, hps, hvs, hr⟩, hpl.mono (by omega), by dsimp only; omega, hu.mono (by omega)⟩
  obtain ⟨l, hll, hp⟩ := list_of len hex
  subst hll
  have := bulk_len bs
  refine ⟨l, ⟨A, cap, rfl, hl, hm, fun i f hf => (hp i f hf).1⟩, by omega, fun f hf => ?_⟩
  obtain ⟨i, hi'⟩ := List.mem_iff_getElem?.1 hf
  exact (hp i f hi').2
set_option maxRecDepth 10000 in
theorem open_core {fuel : Nat} {cs : List Value} {x : DataW H × List MemPlace} (h : DataW.trod enc Tryz.prog w base spare held fuel 25 cs = some x) : ∃ (C : Cg) (vd vf : Value), cs = [vd, vf] ∧ RCg w vd vf C ∧ BD (Rows.uptoBulk x.1) C.decls ∧ BF (Rows.uptoBulk x.1) C.funs := by
  obtain ⟨hlen, bs, hbl, hbk, hf⟩ := fields_of Tryz.shapeC h
  rw [Tryz.cellsC] at hlen
  obtain ⟨n0, y0, h0, g0⟩ := hf 0 22 0 rfl
  obtain ⟨n1, y1, h1, g1⟩ := hf 1 23 1 rfl
  have hy0 := bulk_mem (List.mem_of_getElem? g0)
  have hy1 := bulk_mem (List.mem_of_getElem? g1)
  match cs, hlen with
  | [c0, c1], _ =>
    simp only [Tryz.cells22, Tryz.cellsLF, List.drop_succ_cons, List.drop_zero, List.take_succ_cons, List.take_zero] at h0 h1
    obtain ⟨d, hd, bd⟩ := open_decls h0
    obtain ⟨f, hf, bf⟩ := open_funs h1
    exact ⟨⟨d, f⟩, c0, c1, rfl, ⟨hd, hf⟩, bd.mono (by omega), bf.mono (by omega)⟩
set_option maxRecDepth 100000 in
theorem open_two {fuel : Nat} {cs : List Value} {x : DataW H × List MemPlace} (h : DataW.trod enc Tryz.prog w base spare held fuel 32 cs = some x) : ∃ (vt vu : Value) (tx ta : List Int), cs = [vt, vu] ∧ RInts w vt tx ∧ RInts w vu ta ∧ tx.length + ta.length ≤ Rows.uptoBulk x.1 := by
  obtain ⟨ys, m, _, hx, hlen, hyl, hf⟩ := DataW.trod_array Tryz.uA2 h
  rw [Tryz.cellsA2] at hlen
  obtain ⟨y0, y1, rfl⟩ : ∃ y0 y1, ys = [y0, y1] := by
    match ys, hyl with
    | [a, b], _ => exact ⟨a, b, rfl⟩
  match cs, hlen with
  | [c0, c1], _ =>
    have h0 := hf 0 (by decide)
    have h1 := hf 1 (by decide)
    simp only [Tryz.cellsLI, Nat.zero_mul, Nat.one_mul, List.drop_succ_cons, List.drop_zero, List.take_succ_cons, List.take_zero, List.getElem?_cons_zero, List.getElem?_cons_succ] at h0 h1
    obtain ⟨tx, hx0, l0⟩ := open_ints h0
    obtain ⟨ta, hx1, l1⟩ := open_ints h1
    refine ⟨c0, c1, tx, ta, rfl, hx0, hx1, ?_⟩
    subst hx
    simp only [List.map_cons, List.map_nil, Rows.uptoBulk, Rows.uptoBulkAll]
    omega
/-- What is bounded by the bulk is short. -/
theorem shx_of {C : Cg} {n : Nat} (h1 : BD n C.decls) (h2 : BF n C.funs) (hn : n ≤ 1048576) : ShX C where
  c := ⟨Nat.le_trans h1.1 hn, Nat.le_trans h2.1 hn, fun d hd => ⟨Nat.le_trans (h1.2 d hd).1 hn, fun x hx => ⟨Nat.le_trans ((h1.2 d hd).2 x hx).1 hn, ((h1.2 d hd).2 x hx).2⟩⟩,
    fun f hf => ⟨Nat.le_trans (h2.2 f hf).1.1 hn, Nat.le_trans (h2.2 f hf).2.1 hn, (h2.2 f hf).1.2⟩⟩
  b := fun f hf => ⟨⟨Nat.le_trans (h2.2 f hf).2.2.b hn, Nat.le_trans (h2.2 f hf).2.2.c hn⟩, Nat.le_trans (h2.2 f hf).2.2.o hn⟩
theorem bc_of {t : Nd} {n : Nat} (h : MuN n t) (hn : n ≤ 1048576) : BC t := ⟨⟨Nat.le_trans h.b hn, Nat.le_trans h.c hn⟩, Nat.le_trans h.o hn⟩
end
end Go.Proofs.YtkdhhcidpklgoaaGreatDoor
