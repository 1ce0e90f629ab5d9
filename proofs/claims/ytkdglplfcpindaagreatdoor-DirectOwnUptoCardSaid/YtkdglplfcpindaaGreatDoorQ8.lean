/- Arguments opened: declarations, functions, programs. -/
import Derived.Test.YtkdglplfcpindaaGreatDoorQ7
import Derived.Shelf.Strings.Builder1
import Derived.Shelf.Strings.BuilderF
import Derived.Shelf.Strings.BuilderK
import Derived.Shelf.Strconv.Itoa0
import Derived.Shelf.Strconv.Itoa1
import Derived.Shelf.LaysM
import Derived.Shelf.Strconv.Itoa2
import Derived.Shelf.Strconv.Itoa3
import Derived.Test.YtkdglplfcpindaaGreatDoorProg
import Derived.Lib.OthersKept
namespace Go.Proofs.YtkdglplfcpindaaGreatDoor
open Go.ChangeShapes Go.WideShapes Go.ChangeAt Go.RowKit Go.Deep

def BA (n : Nat) (l : List Arg) : Prop := l.length ≤ n
def BX (n : Nat) (l : List Xtor) : Prop := l.length ≤ n ∧ ∀ x ∈ l, BA n x.args
def BD (n : Nat) (l : List Decl) : Prop := l.length ≤ n ∧ ∀ d ∈ l, BX n d.xtors
theorem BA.mono {n m : Nat} {l : List Arg} (h : BA n l) (k : n ≤ m) : BA m l := Nat.le_trans h k
theorem BX.mono {n m : Nat} {l : List Xtor} (h : BX n l) (k : n ≤ m) : BX m l := ⟨Nat.le_trans h.1 k, fun x hx => (h.2 x hx).mono k⟩
theorem BD.mono {n m : Nat} {l : List Decl} (h : BD n l) (k : n ≤ m) : BD m l := ⟨Nat.le_trans h.1 k, fun d hd => (h.2 d hd).mono k⟩
def BF (n : Nat) (l : List Fn) : Prop := l.length ≤ n ∧ ∀ f ∈ l, f.ps.length ≤ n ∧ uT f.body + 2 ≤ 4 * n
theorem BF.mono {n m : Nat} {l : List Fn} (h : BF n l) (k : n ≤ m) : BF m l := ⟨Nat.le_trans h.1 k, fun f hf => ⟨Nat.le_trans (h.2 f hf).1 k, by have := (h.2 f hf).2; omega⟩⟩

theorem Tryz.shape121 : shapeOf Tryz.prog 165 = some [(3, 0), (4, 1)] := by kernel_rfl
theorem Tryz.shape119 : shapeOf Tryz.prog 140 = some [(9, 0), (138, 1)] := by kernel_rfl
theorem Tryz.shape115 : shapeOf Tryz.prog 137 = some [(9, 0), (4, 1), (135, 2)] := by kernel_rfl
theorem Tryz.shape64 : shapeOf Tryz.prog 69 = some [(9, 0), (3, 1)] := by kernel_rfl
theorem Tryz.shape62 : shapeOf Tryz.prog 52 = some [(9, 0), (46, 1), (3, 2), (50, 3)] := by kernel_rfl
theorem Tryz.shape25 : shapeOf Tryz.prog 25 = some [(22, 0), (23, 1)] := by kernel_rfl
theorem Tryz.cells121 : Tryz.prog.cellsOf 165 = 2 := by kernel_rfl
theorem Tryz.cells119 : Tryz.prog.cellsOf 140 = 2 := by kernel_rfl
theorem Tryz.cells115 : Tryz.prog.cellsOf 137 = 3 := by kernel_rfl
theorem Tryz.cells64 : Tryz.prog.cellsOf 69 = 2 := by kernel_rfl
theorem Tryz.cells62 : Tryz.prog.cellsOf 52 = 9 := by kernel_rfl
theorem Tryz.cells25 : Tryz.prog.cellsOf 25 = 2 := by kernel_rfl
theorem Tryz.cells117 : Tryz.prog.cellsOf 138 = 1 := by kernel_rfl
theorem Tryz.cells113 : Tryz.prog.cellsOf 135 = 1 := by kernel_rfl
theorem Tryz.cells60 : Tryz.prog.cellsOf 46 = 1 := by kernel_rfl
theorem Tryz.cells22 : Tryz.prog.cellsOf 22 = 1 := by kernel_rfl
theorem Tryz.cells23 : Tryz.prog.cellsOf 23 = 1 := by kernel_rfl
theorem Tryz.u117 : Tryz.prog.underlying 138 = some (.slice 165) := by kernel_rfl
theorem Tryz.u113 : Tryz.prog.underlying 135 = some (.slice 140) := by kernel_rfl
theorem Tryz.u22 : Tryz.prog.underlying 22 = some (.slice 137) := by kernel_rfl
theorem Tryz.u60 : Tryz.prog.underlying 46 = some (.slice 69) := by kernel_rfl
theorem Tryz.u23 : Tryz.prog.underlying 23 = some (.slice 52) := by kernel_rfl

section
variable {H : Type} {enc : TypeId × Value → H} {w : World} {base : Nat} {spare : Nat → Bool} {held : Bool}
theorem open_args {fuel : Nat} {v : Value} {x : DataW H × List MemPlace} (h : DataW.trod enc Tryz.prog w base spare held fuel 138 [v] = some x) : ∃ l, RArgs w v l ∧ BA (Rows.uptoBulk x.1) l := by
  obtain ⟨A, len, cap, bs, hcs, hl, hm, hbl, hbk, hi⟩ := elems_of Tryz.u117 (by rw [Tryz.cells121]; decide) h
  obtain rfl : v = .slice A len cap := by simpa using hcs
  have hex : ∀ i, i < len → ∃ a : Arg, ∃ b o, A = some ⟨b, o, none⟩ ∧ b < w.heap.size ∧ w.cell? ⟨b, o + i * 2, none⟩ = some (.int .i64 a.ty) ∧ w.cell? ⟨b, o + i * 2 + 1, none⟩ = some (.bool a.co) := fun i hlt => by
    obtain ⟨b, o, cs', n, y, rfl, hcl, hat, ht, -⟩ := hi i hlt
    rw [Tryz.cells121] at hcl hat
    obtain ⟨_, _, _, _, hf⟩ := fields_of Tryz.shape121 ht
    obtain ⟨n0, y0, h0, -⟩ := hf 0 3 0 rfl
    obtain ⟨n1, y1, h1, -⟩ := hf 1 4 1 rfl
    rw [Tryz.cells3] at h0
    rw [Tryz.cells4] at h1
    obtain ⟨t, e0, _, _⟩ := DataW.trod_int Tryz.u3 h0
    obtain ⟨co, e1, _⟩ := DataW.trod_bool Tryz.u4 h1
    have c0 := (hat 0 (by omega)).trans (take_one e0)
    have c1 := (hat 1 (by omega)).trans (take_one e1)
    exact ⟨⟨t, co⟩, b, o, rfl, cell_lt c0, by simpa using c0, by rw [Nat.add_assoc]; exact c1⟩
  obtain ⟨l, hll, hp⟩ := list_of len hex
  subst hll
  have := bulk_len bs
  exact ⟨l, ⟨A, cap, rfl, hl, hm, hp⟩, by show l.length ≤ _; omega⟩
theorem open_xtors {fuel : Nat} {v : Value} {x' : DataW H × List MemPlace} (h : DataW.trod enc Tryz.prog w base spare held fuel 135 [v] = some x') : ∃ l, RXtors w v l ∧ BX (Rows.uptoBulk x'.1) l := by
  obtain ⟨A, len, cap, bs, hcs, hl, hm, hbl, hbk, hi⟩ := elems_of Tryz.u113 (by rw [Tryz.cells119]; decide) h
  obtain rfl : v = .slice A len cap := by simpa using hcs
  have hex : ∀ i, i < len → ∃ x : Xtor, ∃ b o va, A = some ⟨b, o, none⟩ ∧ b < w.heap.size ∧ w.cell? ⟨b, o + i * 2, none⟩ = some (.string x.name) ∧ w.cell? ⟨b, o + i * 2 + 1, none⟩ = some va ∧ (RArgs w va x.args ∧ x.name.size ≤ maxLen) ∧ BA (Rows.uptoBulk x'.1) x.args := fun i hlt => by
    obtain ⟨b, o, cs', n, y, rfl, hcl, hat, ht, hy⟩ := hi i hlt
    rw [Tryz.cells119] at hcl hat
    have hby := bulk_mem (List.mem_of_getElem? hy)
    obtain ⟨_, zs, -, hzk, hf⟩ := fields_of Tryz.shape119 ht
    obtain ⟨n0, y0, h0, -⟩ := hf 0 9 0 rfl
    obtain ⟨n1, y1, h1, g1⟩ := hf 1 138 1 rfl
    have hy1 := bulk_mem (List.mem_of_getElem? g1)
    rw [Tryz.cells9] at h0
    rw [Tryz.cells117] at h1
    obtain ⟨s, e0, _, hs⟩ := DataW.trod_string Tryz.u9 h0
    obtain ⟨va, hva⟩ : ∃ va, (cs'.drop 1).take 1 = [va] := ⟨_, one_of (by omega)⟩
    rw [hva] at h1
    obtain ⟨la, hla, hlb⟩ := open_args h1
    have c0 := (hat 0 (by omega)).trans (take_one e0)
    have c1 := (hat 1 (by omega)).trans (take_one hva)
    exact ⟨⟨s, la⟩, b, o, va, rfl, cell_lt c0, by simpa using c0, by rw [Nat.add_assoc]; exact c1, ⟨hla, hs⟩, hlb.mono (by omega)⟩
  obtain ⟨l, hll, hp⟩ := list_of len hex
  subst hll
  have := bulk_len bs
  refine ⟨l, ⟨A, cap, rfl, hl, hm, fun i y hy => ?_⟩, by omega, fun y hy => ?_⟩
  · obtain ⟨b, o, va, e1, e2, e3, e4, e5, _⟩ := hp i y hy
    exact ⟨b, o, va, e1, e2, e3, e4, e5⟩
  · obtain ⟨i, hi'⟩ := List.mem_iff_getElem?.1 hy
    obtain ⟨b, o, va, e1, e2, e3, e4, _, e6⟩ := hp i y hi'
    exact e6
theorem open_decls {fuel : Nat} {v : Value} {x' : DataW H × List MemPlace} (h : DataW.trod enc Tryz.prog w base spare held fuel 22 [v] = some x') : ∃ l, RDecls w v l ∧ BD (Rows.uptoBulk x'.1) l := by
  obtain ⟨A, len, cap, bs, hcs, hl, hm, hbl, hbk, hi⟩ := elems_of Tryz.u22 (by rw [Tryz.cells115]; decide) h
  obtain rfl : v = .slice A len cap := by simpa using hcs
  have hex : ∀ i, i < len → ∃ d : Decl, ∃ b o va, A = some ⟨b, o, none⟩ ∧ b < w.heap.size ∧ w.cell? ⟨b, o + i * 3, none⟩ = some (.string d.name) ∧ w.cell? ⟨b, o + i * 3 + 1, none⟩ = some (.bool d.codata) ∧ w.cell? ⟨b, o + i * 3 + 2, none⟩ = some va ∧ (RXtors w va d.xtors ∧ d.name.size ≤ maxLen) ∧ BX (Rows.uptoBulk x'.1) d.xtors := fun i hlt => by
    obtain ⟨b, o, cs', n, y, rfl, hcl, hat, ht, hy⟩ := hi i hlt
    rw [Tryz.cells115] at hcl hat
    have hby := bulk_mem (List.mem_of_getElem? hy)
    obtain ⟨_, zs, -, hzk, hf⟩ := fields_of Tryz.shape115 ht
    obtain ⟨n0, y0, h0, -⟩ := hf 0 9 0 rfl
    obtain ⟨n1, y1, h1, -⟩ := hf 1 4 1 rfl
    obtain ⟨n2, y2, h2, g2⟩ := hf 2 135 2 rfl
    have hy2 := bulk_mem (List.mem_of_getElem? g2)
    rw [Tryz.cells9] at h0
    rw [Tryz.cells4] at h1
    rw [Tryz.cells113] at h2
    obtain ⟨s, e0, _, hs⟩ := DataW.trod_string Tryz.u9 h0
    obtain ⟨co, e1, _⟩ := DataW.trod_bool Tryz.u4 h1
    obtain ⟨va, hva⟩ : ∃ va, (cs'.drop 2).take 1 = [va] := ⟨_, one_of (by omega)⟩
    rw [hva] at h2
    obtain ⟨lx, hlx, hlb⟩ := open_xtors h2
    have c0 := (hat 0 (by omega)).trans (take_one e0)
    have c1 := (hat 1 (by omega)).trans (take_one e1)
    have c2 := (hat 2 (by omega)).trans (take_one hva)
    exact ⟨⟨s, co, lx⟩, b, o, va, rfl, cell_lt c0, by simpa using c0, by rw [Nat.add_assoc]; exact c1, by rw [Nat.add_assoc]; exact c2, ⟨hlx, hs⟩, hlb.mono (by omega)⟩
  obtain ⟨l, hll, hp⟩ := list_of len hex
  subst hll
  have := bulk_len bs
  refine ⟨l, ⟨A, cap, rfl, hl, hm, fun i y hy => ?_⟩, by omega, fun y hy => ?_⟩
  · obtain ⟨b, o, va, e1, e2, e3, e4, e5, e6, _⟩ := hp i y hy
    exact ⟨b, o, va, e1, e2, e3, e4, e5, e6⟩
  · obtain ⟨i, hi'⟩ := List.mem_iff_getElem?.1 hy
    obtain ⟨b, o, va, e1, e2, e3, e4, e5, _, e7⟩ := hp i y hi'
    exact e7
theorem open_prms {fuel : Nat} {v : Value} {x : DataW H × List MemPlace} (h : DataW.trod enc Tryz.prog w base spare held fuel 46 [v] = some x) : ∃ l, RPrms w v l ∧ l.length ≤ Rows.uptoBulk x.1 := by
  obtain ⟨A, len, cap, bs, hcs, hl, hm, hbl, hbk, hi⟩ := elems_of Tryz.u60 (by rw [Tryz.cells64]; decide) h
  obtain rfl : v = .slice A len cap := by simpa using hcs
  have hex : ∀ i, i < len → ∃ a : Prm, ∃ b o, A = some ⟨b, o, none⟩ ∧ b < w.heap.size ∧ w.cell? ⟨b, o + i * 2, none⟩ = some (.string a.nm) ∧ w.cell? ⟨b, o + i * 2 + 1, none⟩ = some (.int .i64 a.ty) ∧ a.nm.size ≤ maxLen := fun i hlt => by
    obtain ⟨b, o, cs', n, y, rfl, hcl, hat, ht, -⟩ := hi i hlt
    rw [Tryz.cells64] at hcl hat
    obtain ⟨_, _, _, _, hf⟩ := fields_of Tryz.shape64 ht
    obtain ⟨n0, y0, h0, -⟩ := hf 0 9 0 rfl
    obtain ⟨n1, y1, h1, -⟩ := hf 1 3 1 rfl
    rw [Tryz.cells9] at h0
    rw [Tryz.cells3] at h1
    obtain ⟨s, e0, _, hs⟩ := DataW.trod_string Tryz.u9 h0
    obtain ⟨t, e1, _, _⟩ := DataW.trod_int Tryz.u3 h1
    have c0 := (hat 0 (by omega)).trans (take_one e0)
    have c1 := (hat 1 (by omega)).trans (take_one e1)
    exact ⟨⟨s, t⟩, b, o, rfl, cell_lt c0, by simpa using c0, by rw [Nat.add_assoc]; exact c1, hs⟩
  obtain ⟨l, hll, hp⟩ := list_of len hex
  subst hll
  have := bulk_len bs
  exact ⟨l, ⟨A, cap, rfl, hl, hm, hp⟩, by omega⟩
set_option maxRecDepth 10000 in
theorem open_funs {fuel : Nat} {v : Value} {x' : DataW H × List MemPlace} (h : DataW.trod enc Tryz.prog w base spare held fuel 23 [v] = some x') : ∃ l, RFns w v l ∧ BF (Rows.uptoBulk x'.1) l := by
  obtain ⟨A, len, cap, bs, hcs, hl, hm, hbl, hbk, hi⟩ := elems_of Tryz.u23 (by rw [Tryz.cells62]; decide) h
  obtain rfl : v = .slice A len cap := by simpa using hcs
  have hex : ∀ i, i < len → ∃ f : Fn, (∃ b o vp xa xc k, A = some ⟨b, o, none⟩ ∧ b < w.heap.size ∧ w.cell? ⟨b, o + i * 9, none⟩ = some (.string f.nm) ∧ w.cell? ⟨b, o + i * 9 + 1, none⟩ = some vp ∧ w.cell? ⟨b, o + i * 9 + 2, none⟩ = some (.int .i64 f.res) ∧
      C6 w b (o + i * 9 + 3) f.body xa xc ∧ f.nm.size ≤ maxLen ∧ RPrms w vp f.ps ∧ RT w k f.body xa xc) ∧ (f.ps.length ≤ Rows.uptoBulk x'.1 ∧ uT f.body + 2 ≤ 4 * Rows.uptoBulk x'.1) := fun i hlt => by
    obtain ⟨b, o, q, n, y, rfl, hql, hat, ht, hy⟩ := hi i hlt
    rw [Tryz.cells62] at hql hat
    have hby := bulk_mem (List.mem_of_getElem? hy)
    obtain ⟨_, zs, -, hzk, hf⟩ := fields_of Tryz.shape62 ht
    obtain ⟨n0, y0, h0, -⟩ := hf 0 9 0 rfl
    obtain ⟨n1, y1, h1, g1⟩ := hf 1 46 1 rfl
    obtain ⟨n2, y2, h2, -⟩ := hf 2 3 2 rfl
    obtain ⟨n3, y3, h3, g3⟩ := hf 3 50 3 rfl
    have hy1 := bulk_mem (List.mem_of_getElem? g1)
    have hy3 := bulk_mem (List.mem_of_getElem? g3)
    match q, hql with
    | [q0, q1, q2, q3, q4, q5, q6, q7, q8], _ =>
      simp only [Tryz.cells9, Tryz.cells60, Tryz.cells3, Tryz.cells43, List.drop_succ_cons, List.drop_zero, List.take_succ_cons, List.take_zero] at h0 h1 h2 h3
      obtain ⟨s, e0, _, hs⟩ := DataW.trod_string Tryz.u9 h0
      obtain ⟨r, e2, _, _⟩ := DataW.trod_int Tryz.u3 h2
      cases e0; cases e2
      obtain ⟨ps, hps, hpl⟩ := open_prms h1
      obtain ⟨t, xa, xc, ht0, hr, hu⟩ := open_term _ n3 _ y3 (Nat.le_refl _) h3
      have c0 := hat 0 (by omega)
      have c1 := hat 1 (by omega)
      have c2 := hat 2 (by omega)
      have c3 := hat 3 (by omega)
      have c4 := hat 4 (by omega)
      have c5 := hat 5 (by omega)
      have c6 := hat 6 (by omega)
      have c7 := hat 7 (by omega)
      have c8 := hat 8 (by omega)
      rw [ht0] at c3 c4 c5 c6 c7 c8
      simp only [← Nat.add_assoc, Nat.add_zero, List.getElem?_cons_zero, List.getElem?_cons_succ] at c0 c1 c2 c3 c4 c5 c6 c7 c8
      exact ⟨⟨s, ps, r, t⟩, ⟨b, o, _, xa, xc, _, rfl, cell_lt c0, c0, c1, c2, ⟨c3, c4, c5, c6, c7, c8⟩, hs, hps, hr⟩, by dsimp only; omega, by dsimp only; omega⟩
  obtain ⟨l, hll, hp⟩ := list_of len hex
  subst hll
  have := bulk_len bs
  refine ⟨l, ⟨A, cap, rfl, hl, hm, fun i f hf => (hp i f hf).1⟩, by omega, fun f hf => ?_⟩
  obtain ⟨i, hi'⟩ := List.mem_iff_getElem?.1 hf
  exact (hp i f hi').2
set_option maxRecDepth 10000 in
theorem open_prog {fuel : Nat} {cs : List Value} {x : DataW H × List MemPlace} (h : DataW.trod enc Tryz.prog w base spare held fuel 25 cs = some x) : ∃ (P : Pg) (vd vf : Value), cs = [vd, vf] ∧ RDecls w vd P.decls ∧ RFns w vf P.funs ∧ BD (Rows.uptoBulk x.1) P.decls ∧ BF (Rows.uptoBulk x.1) P.funs := by
  obtain ⟨hlen, bs, hbl, hbk, hf⟩ := fields_of Tryz.shape25 h
  rw [Tryz.cells25] at hlen
  obtain ⟨n0, y0, h0, g0⟩ := hf 0 22 0 rfl
  obtain ⟨n1, y1, h1, g1⟩ := hf 1 23 1 rfl
  have hy0 := bulk_mem (List.mem_of_getElem? g0)
  have hy1 := bulk_mem (List.mem_of_getElem? g1)
  match cs, hlen with
  | [c0, c1], _ =>
    simp only [Tryz.cells22, Tryz.cells23, List.drop_succ_cons, List.drop_zero, List.take_succ_cons, List.take_zero] at h0 h1
    obtain ⟨d, hd, bd⟩ := open_decls h0
    obtain ⟨f, hf, bf⟩ := open_funs h1
    exact ⟨⟨d, f⟩, c0, c1, rfl, hd, hf, bd.mono (by omega), bf.mono (by omega)⟩
end
end Go.Proofs.YtkdglplfcpindaaGreatDoor

/- The shelf: a builder, Itoa. -/
namespace Go.Proofs
open Go.Shelf
def Tryz.lays169_ren : Go.Shelf.Ren := ⟨fun | 169 => 46 | n => n, fun | 70 => 105 | 9 => 9 | 0 => 0 | 72 => 108 | 37 => 106 | 127 => 162 | 3 => 3 | 5 => 5 | n => n, fun | n => n⟩
theorem Tryz.lays169 : Go.Proofs.Lays.n169 Tryz.prog Tryz.lays169_ren := {
  mixed := by kernel_rfl
  f169 := Tryz.func46.trans (congrArg some (by kernel_rfl))
  t0 := Tryz.underlying0
  a0 := Tryz.isAgg0
  z0 := Tryz.sizeOf0
  v0 := Tryz.zeroValue0
  t3 := Tryz.underlying3
  a3 := Tryz.isAgg3
  z3 := Tryz.sizeOf3
  v3 := Tryz.zeroValue3
  t9 := Tryz.underlying9
  a9 := Tryz.isAgg9
  z9 := Tryz.sizeOf9
  v9 := Tryz.zeroValue9
  t37 := Tryz.underlying106
  a37 := Tryz.isAgg106
  z37 := Tryz.sizeOf106
  v37 := Tryz.zeroValue106
  t70 := Tryz.underlying105
  a70 := Tryz.isAgg105
  z70 := Tryz.sizeOf105
  v70 := Tryz.zeroValue105
  t72 := Tryz.underlying108
  a72 := Tryz.isAgg108
  z72 := Tryz.sizeOf108
  v72 := Tryz.zeroValue108
  t127 := Tryz.underlying162
  a127 := Tryz.isAgg162
  z127 := Tryz.sizeOf162
  v127 := Tryz.zeroValue162 }
theorem Tryz.Builder_Extra_169 : Builder.Extra Tryz.prog Tryz.lays169_ren := {
  sizeBuilder := by kernel_rfl
  liesBuilder := by kernel_rfl
  t5 := Tryz.underlying5
  a5 := Tryz.isAgg5
  z5 := Tryz.sizeOf5
  v5 := Tryz.zeroValue5
  infoByte := by kernel_rfl
  cellsByte := by kernel_rfl
  sizeByte := by kernel_rfl
  neB5 := by decide }
open Go.RowKit Go.Lib in
theorem Tryz.Builder_String_any_k (B b : Nat) (l : List UInt8) (w : World) (h : Lib.IsBuilderF 108 5 B b (Lib.byteCells l) w) (hBw : B ≤ w.heap.size) :
    Calls Tryz.prog 46 #[.pointer (some ⟨b, 0, none⟩)] w fun e w' => e = .returned (.string ⟨l.toArray⟩) ∧ (Lib.IsBuilderF 108 5 B b (Lib.byteCells l) w' ∧ Below B w w' ∧ Lib.OthersKept 5 (some b) w w') := Any.Builder_String_any_k Tryz.lays169 Tryz.Builder_Extra_169 B b l w h hBw
def Tryz.lays171_ren : Go.Shelf.Ren := ⟨fun | 171 => 44 | 243 => 73 | 246 => 112 | 283 => 138 | 284 => 139 | 285 => 140 | 286 => 141 | 129 => 161 | 317 => 160 | 318 => 162 | 319 => 163 | 320 => 164 | 337 => 169 | 338 => 170 | n => n, fun | 3 => 3 | 9 => 9 | 2 => 2 | 4 => 4 | 171 => 236 | 0 => 0 | 53 => 237 | 37 => 106 | 5 => 5 | 173 => 240 | 212 => 256 | 51 => 257 | 20 => 20 | 213 => 258 | 46 => 259 | 232 => 263 | 233 => 264 | n => n, fun | 17 => 0 | 18 => 1 | 19 => 2 | n => n⟩
theorem Tryz.lays171 : Go.Proofs.Lays.n171 Tryz.prog Tryz.lays171_ren := {
  mixed := by kernel_rfl
  f129 := Tryz.func161.trans (congrArg some (by kernel_rfl))
  f171 := Tryz.func44.trans (congrArg some (by kernel_rfl))
  f243 := Tryz.func73.trans (congrArg some (by kernel_rfl))
  f246 := Tryz.func112.trans (congrArg some (by kernel_rfl))
  f283 := Tryz.func138.trans (congrArg some (by kernel_rfl))
  f284 := Tryz.func139.trans (congrArg some (by kernel_rfl))
  f285 := Tryz.func140.trans (congrArg some (by kernel_rfl))
  f286 := Tryz.func141.trans (congrArg some (by kernel_rfl))
  f317 := Tryz.func160.trans (congrArg some (by kernel_rfl))
  f318 := Tryz.func162.trans (congrArg some (by kernel_rfl))
  f319 := Tryz.func163.trans (congrArg some (by kernel_rfl))
  f320 := Tryz.func164.trans (congrArg some (by kernel_rfl))
  f337 := Tryz.func169.trans (congrArg some (by kernel_rfl))
  f338 := Tryz.func170.trans (congrArg some (by kernel_rfl))
  t0 := Tryz.underlying0
  a0 := Tryz.isAgg0
  z0 := Tryz.sizeOf0
  v0 := Tryz.zeroValue0
  t2 := Tryz.underlying2
  a2 := Tryz.isAgg2
  z2 := Tryz.sizeOf2
  v2 := Tryz.zeroValue2
  t3 := Tryz.underlying3
  a3 := Tryz.isAgg3
  z3 := Tryz.sizeOf3
  v3 := Tryz.zeroValue3
  t4 := Tryz.underlying4
  a4 := Tryz.isAgg4
  z4 := Tryz.sizeOf4
  v4 := Tryz.zeroValue4
  t5 := Tryz.underlying5
  a5 := Tryz.isAgg5
  z5 := Tryz.sizeOf5
  v5 := Tryz.zeroValue5
  t9 := Tryz.underlying9
  a9 := Tryz.isAgg9
  z9 := Tryz.sizeOf9
  v9 := Tryz.zeroValue9
  t20 := Tryz.underlying20
  a20 := Tryz.isAgg20
  z20 := Tryz.sizeOf20
  v20 := Tryz.zeroValue20
  t37 := Tryz.underlying106
  a37 := Tryz.isAgg106
  z37 := Tryz.sizeOf106
  v37 := Tryz.zeroValue106
  t46 := Tryz.underlying259
  a46 := Tryz.isAgg259
  z46 := Tryz.sizeOf259
  v46 := Tryz.zeroValue259
  t51 := Tryz.underlying257
  a51 := Tryz.isAgg257
  z51 := Tryz.sizeOf257
  v51 := Tryz.zeroValue257
  t53 := Tryz.underlying237
  a53 := Tryz.isAgg237
  z53 := Tryz.sizeOf237
  v53 := Tryz.zeroValue237
  t171 := Tryz.underlying236
  a171 := Tryz.isAgg236
  z171 := Tryz.sizeOf236
  v171 := Tryz.zeroValue236
  t173 := Tryz.underlying240
  a173 := Tryz.isAgg240
  z173 := Tryz.sizeOf240
  v173 := Tryz.zeroValue240
  t212 := Tryz.underlying256
  a212 := Tryz.isAgg256
  z212 := Tryz.sizeOf256
  v212 := Tryz.zeroValue256
  t213 := Tryz.underlying258
  a213 := Tryz.isAgg258
  z213 := Tryz.sizeOf258
  t232 := Tryz.underlying263
  a232 := Tryz.isAgg263
  z232 := Tryz.sizeOf263
  v232 := Tryz.zeroValue263
  t233 := Tryz.underlying264
  a233 := Tryz.isAgg264
  z233 := Tryz.sizeOf264
  v233 := Tryz.zeroValue264
  g17 := by kernel_rfl
  g18 := by kernel_rfl
  g19 := by kernel_rfl }
open Go.RowKit Go.Lib in
theorem Tryz.strconv_Itoa_small (i : Nat) (hi : i < 100) (w : World) :
    Calls Tryz.prog 44 #[.int .i64 i] w fun e w' => e = .returned (.string ⟨(Lib.decDigits i).toArray⟩) ∧ w' = w := Any.strconv_Itoa_small Tryz.lays171 i hi w
end Go.Proofs

namespace Go.Proofs.YtkdglplfcpindaaGreatDoor
open Go.RowKit

theorem Tryz.infoU8 : (Tryz.prog.info? 5).map (fun i => (i.zero, i.size, i.bytes)) = some (some (.int .u8 0), 1, 1) := by kernel_rfl
theorem Tryz.sizeBuilder : (Tryz.prog.info? 108).map (·.size) = some 2 := by kernel_rfl
theorem Tryz.liesBuilder : liesAt Tryz.prog Tryz.prog.depth 108 (2 / Tryz.prog.cellsOf 108) 0 108 1 = true := by kernel_rfl

set_option maxHeartbeats 1000000 in
set_option maxRecDepth 100000 in
theorem copyCheck_any (B b : Nat) (bs : List Value) (w : World) (h : Lib.IsBuilderF 108 5 B b bs w) :
    Calls Tryz.prog 72 #[.pointer (some ⟨b, 0, none⟩)] w fun e w' => e = .returned (.tuple #[]) ∧ Lib.BuilderAtF 108 5 B b (.pointer (some ⟨b, 0, none⟩)) bs w' ∧ Below B w w' ∧ Lib.OthersKept 5 (some b) w w' := by
  obtain ⟨j, hj, hjs⟩ := Option.map_eq_some_iff.1 Tryz.sizeBuilder
  have HJ := Lib.hid hj; have HJS := Lib.hid hjs; clear hj hjs
  rcases h with h | h
  · have c0 := h.cell0
    have f0 := h.frozen0
    have HSH := Lib.hid h.shape
    have HH := Lib.hid h; clear h
    go_enter Tryz.func72, Tryz.ntmps72
    go_wp2
    rw [Lib.run_to_unsafe w ⟨b, 0, none⟩ Tryz.underlying105 Tryz.underlying199 HJ.out (by rw [HJS.out]; decide) HSH.out (Nat.zero_lt_succ 1)]
    simp only [Result.andThen]
    rw [Oper.upon_value]
    go_wp2
    rw [run_callFunc_extern Tryz.func111 (by kernel_rfl) (by kernel_rfl) (by kernel_rfl) (e := Extern.AbiNoEscape.same) (by kernel_rfl)]
    rw [Lib.run_noEscape]
    simp only [Result.andThen]
    rw [Oper.upon_value]
    go_wp2
    rw [Lib.run_from_unsafe w ⟨b, 0, none⟩ Tryz.underlying199 Tryz.underlying105 HJ.out HSH.out Tryz.liesBuilder]
    simp only [Result.andThen]
    rw [Oper.upon_value]
    go_wp2
    go_end0
    exact ⟨rfl, HH.out.used _, (Below.refl B w).setCell (p := ⟨b, 0, none⟩) HH.out.1 _, (Lib.OthersKept.refl _ _ w).setCell ⟨b, 0, none⟩ rfl _⟩
  · have c0 := h.cell0
    have HH := Lib.hid h; clear h
    go_enter Tryz.func72, Tryz.ntmps72
    go_wp2
    rw [Lib.run_neq_ptr_same w _ Tryz.underlying105 HJ.out]
    go_wp2
    go_end0
    exact ⟨rfl, HH.out, Below.refl B _, Lib.OthersKept.refl _ _ _⟩

/-- The builder in block b holds these bytes. -/
def BW (B b : Nat) (bs : List UInt8) (w : World) : Prop := Lib.IsBuilderF 108 5 B b (Lib.byteCells bs) w
/-- What a writer leaves. -/
structure Wrote (B b : Nat) (bs : List UInt8) (w w' : World) : Prop where
  at_ : BW B b bs w'
  below : Below B w w'
  others : Lib.OthersKept 5 (some b) w w'
theorem Wrote.rf {B b : Nat} {bs : List UInt8} {w : World} (h : BW B b bs w) : Wrote B b bs w w := ⟨h, Below.refl _ _, Lib.OthersKept.refl _ _ _⟩
theorem Wrote.tr {B b : Nat} {bs cs : List UInt8} {w1 w2 w3 : World} (h : Wrote B b bs w1 w2) (k : Wrote B b cs w2 w3) : Wrote B b cs w1 w3 := ⟨k.at_, h.below.trans k.below, h.others.trans k.others⟩
theorem byteCells_app (a b : List UInt8) : Lib.byteCells a ++ Lib.byteCells b = Lib.byteCells (a ++ b) := by simp [Lib.byteCells]

set_option maxHeartbeats 1000000 in
set_option maxRecDepth 100000 in
theorem WriteString_any (B b : Nat) (bs : List UInt8) (s : ByteArray) (w : World) (h : BW B b bs w) (hlen : bs.length + s.size ≤ 140737488355328) (hBw : B ≤ w.heap.size) :
    Calls Tryz.prog 43 #[.pointer (some ⟨b, 0, none⟩), .string s] w fun e w' => e = .returned (.tuple #[.int .i64 s.size, .nilIface]) ∧ Wrote B b (bs ++ s.data.toList) w w' := by
  obtain ⟨i0, hi, hz0, hz1, hz2⟩ := info_parts Tryz.infoU8
  have HI := Lib.hid hi; have HZ0 := Lib.hid hz0; have HZ1 := Lib.hid hz1; have HZ2 := Lib.hid hz2; clear hi hz0 hz1 hz2
  have HL := Lib.hid hlen; clear hlen
  go_enter Tryz.func43, Tryz.ntmps43
  go_wp2_with (go_at_call 72; refine (copyCheck_any B b _ _ h).mono ?_)
  rintro e w1 ⟨rfl, h1, hb1, hk1⟩
  obtain ⟨hB, v, hbk, hown, hne⟩ := h1
  have c0 : w1.cell? ⟨b, 0, none⟩ = some (.pointer (some ⟨b, 0, none⟩)) := by rw [Lib.cell_of_heap hbk]; rfl
  have c1 : w1.cell? ⟨b, 1, none⟩ = some v := by rw [Lib.cell_of_heap hbk]; rfl
  have hl : (Lib.byteCells bs).length + s.size ≤ 140737488355328 := by have := HL.out; simpa [Lib.byteCells] using this
  go_wp2_with (at_builtin; refine Lib.wpList_append_own_stringF _ rfl _ _ 106 9 rfl B 5 i0 Tryz.underlying106 Tryz.underlying9 HI.out HZ0.out HZ1.out HZ2.out _ _ _ rfl hown s rfl ?c3 ?c4 ?c5 ?_)
  case c3 => unfold maxLen; omega
  case c4 => omega
  case c5 => have := hb1.size; omega
  intro v' w2 hown' hgrow _
  have hlt : b < w1.heap.size := by
    rcases Nat.lt_or_ge b w1.heap.size with h' | h'
    · exact h'
    · simp [Array.getElem?_eq_none h'] at hbk
  have hb2 : w2.heap[b]? = some (.cells #[.pointer (some ⟨b, 0, none⟩), v] 108 (0, 0)) := by
    rw [hgrow.block b hlt (fun e => hne e.symm)]
    exact hbk
  have d0 : w2.cell? ⟨b, 0, none⟩ = some (.pointer (some ⟨b, 0, none⟩)) := by rw [Lib.cell_of_heap hb2]; rfl
  have d1 : w2.cell? ⟨b, 1, none⟩ = some v := by rw [Lib.cell_of_heap hb2]; rfl
  have f1 : w2.frozen? ⟨b, 1, none⟩ = false := Lib.frozen_of_heap hb2 1
  obtain ⟨ao, n', cap, rfl⟩ : ∃ ao n' cap, v' = .slice ao n' cap := by
    rcases hown'.2 with ⟨hv, _⟩ | ⟨g, cap, cur, fz, hv, _⟩
    · exact ⟨_, _, _, hv⟩
    · exact ⟨_, _, _, hv⟩
  have hat : BW B b (bs ++ s.data.toList) (w2.setCell ⟨b, 1, none⟩ (.slice ao n' cap)) := by
    refine Or.inr ?_
    rw [← byteCells_app]
    exact Lib.BuilderAtF.put (T := 108) (e := 5) hB hb2 (bs' := Lib.byteCells bs ++ Lib.byteCells s.data.toList) (by rw [← Lib.strCells_eq, List.length_append, Lib.strCells_length]; exact hown') (by decide)
  have HAT := Lib.hid hat; clear hat
  have HB := Lib.hid ((hb1.grown hgrow (by have := hb1.size; omega) (fun k hk => (hown.lt k hk).1)).setCell (p := ⟨b, 1, none⟩) hB (.slice ao n' cap))
  have HK := Lib.hid ((hk1.grown hgrow (Lib.ownsRowF_kind hown)).setCell ⟨b, 1, none⟩ rfl (.slice ao n' cap))
  clear hown hown' hgrow hb1 hk1
  go_wp2
  go_ret2
  exact ⟨rfl, HAT.out, HB.out, HK.out⟩

end Go.Proofs.YtkdglplfcpindaaGreatDoor

/- Types of terms as plain data: the rules, and the first subterm that has no type. -/
namespace Go.Proofs.YtkdglplfcpindaaGreatDoor

/-- Names with types, the innermost first. -/
abbrev Env := List (Str × Int)
def findE : Env → Str → Option Int
  | [], _ => none
  | (s, y) :: r, x => if s.toList == x.toList then some y else findE r x
/-- A type, or the path to the first subterm that has none. -/
abbrev TyR := List Int ⊕ Int
def prodL (x : Xtor) : List Int := (x.args.filter fun a => !a.co).map Arg.ty
def lastT (x : Xtor) : Int := match x.args.getLast? with | some a => a.ty | none => 0
def xtorAt (P : Pg) (ty n : Int) : Xtor := (declAt P ty).xtors.getD n.toNat noXtor
def fnAt (P : Pg) (n : Int) : Fn := P.funs.getD n.toNat noFn
def eqL : List Int → List Int → Bool
  | [], [] => true
  | a :: r, b :: s => decide (a = b) && eqL r s
  | _, _ => false
theorem eqL_iff : ∀ a b : List Int, eqL a b = true ↔ a = b
  | [], [] => by simp [eqL]
  | [], b :: s => by simp [eqL]
  | a :: r, [] => by simp [eqL]
  | a :: r, b :: s => by simp [eqL, eqL_iff r s]
def okR (b : Bool) (y : Int) : TyR := if b then .inr y else .inl []
/-- The rule of an operator; ps are the types of the children. -/
def ruleS (P : Pg) (V L : Env) (op n : Int) (nm : Str) (ty : Int) (ps : List Int) : TyR :=
  if op = 0 then (match findE V nm with | some y => .inr y | none => .inl [])
  else if op = 1 then .inr 0
  else if op = 2 then okR (decide (ps.getD 0 0 = 0) && decide (ps.getD 1 0 = 0)) 0
  else if op = 3 then okR (decide (ps.getD 0 0 = 0) && decide (ps.getD 1 0 = ps.getD 2 0)) (ps.getD 1 0)
  else if op = 4 then okR (eqL ps (prodL (xtorAt P ty n))) ty
  else if op = 5 then okR ((ps.drop 2).all (fun y => decide (y = ps.getD 1 0)) && decide (ps.getD 0 0 = ty)) (ps.getD 1 0)
  else if op = 6 then okR (eqL ps (prodL (xtorAt P ty n) ++ [ty])) (lastT (xtorAt P ty n))
  else if op = 7 then okR (eqL ps ((declAt P ty).xtors.map lastT)) ty
  else if op = 8 then okR (decide (ps.getD 0 0 = ty)) (ps.getD 1 0)
  else if op = 9 then okR (eqL ps ((fnAt P n).ps.map Prm.ty)) (fnAt P n).res
  else if op = 10 then okR (decide (ps.getD 0 0 = 0)) (ps.getD 1 0)
  else if op = 11 then okR (decide (ps.getD 0 0 = ty)) ty
  else (match findE L nm with | some y => okR (decide (ps.getD 0 0 = y)) ty | none => .inl [])
def argV (op : Int) (nm : Str) (ty : Int) (i : Nat) (V : Env) : Env := if op = 8 ∧ i = 1 then (nm, ty) :: V else V
def argL (op : Int) (nm : Str) (ty : Int) (L : Env) : Env := if op = 11 then (nm, ty) :: L else L
def bindE : List Str → List Int → Env → Env
  | s :: r, y :: q, V => bindE r q ((s, y) :: V)
  | _, _, V => V
mutual
def tyT (P : Pg) : Env → Env → Tm → TyR
  | V, L, .mk op n nm ty args cls => match tyA P op nm ty V L 0 args with
    | .inl p => .inl p
    | .inr a => match tyC P V L args.length (declAt P ty).xtors cls with
      | .inl p => .inl p
      | .inr b => ruleS P V L op n nm ty (a ++ b)
def tyA (P : Pg) (op : Int) (nm : Str) (ty : Int) : Env → Env → Nat → List Tm → List Int ⊕ List Int
  | _, _, _, [] => .inr []
  | V, L, i, a :: r => match tyT P (argV op nm ty i V) (argL op nm ty L) a with
    | .inl p => .inl ((i : Int) :: p)
    | .inr y => match tyA P op nm ty V L (i + 1) r with
      | .inl p => .inl p
      | .inr q => .inr (y :: q)
def tyC (P : Pg) : Env → Env → Nat → List Xtor → List (List Str × Tm) → List Int ⊕ List Int
  | _, _, _, _, [] => .inr []
  | V, L, i, xs, (ns, t) :: r => match tyT P (bindE ns (prodL (xs.headD noXtor)) V) L t with
    | .inl p => .inl ((i : Int) :: p)
    | .inr y => match tyC P V L (i + 1) xs.tail r with
      | .inl p => .inl p
      | .inr q => .inr (y :: q)
end
/-- The children with their scopes, one after another. -/
def kidE (P : Pg) (V L : Env) (t : Tm) (i : Nat) : Env × Env :=
  if i < t.args.length then (argV t.op t.nm t.ty i V, argL t.op t.nm t.ty L)
  else (bindE (t.cls.getD (i - t.args.length) ([], .mk 0 0 ⟨#[]⟩ 0 [] [])).1 (prodL ((declAt P t.ty).xtors.getD (i - t.args.length) noXtor)) V, L)
def kidT (t : Tm) (i : Nat) : Tm := if i < t.args.length then t.args.getD i (.mk 0 0 ⟨#[]⟩ 0 [] []) else (t.cls.getD (i - t.args.length) ([], .mk 0 0 ⟨#[]⟩ 0 [] [])).2
/-- From child i on, k of them. -/
def tyK (P : Pg) (V L : Env) (t : Tm) : Nat → Nat → List Int ⊕ List Int
  | _, 0 => .inr []
  | i, k + 1 => match tyT P (kidE P V L t i).1 (kidE P V L t i).2 (kidT t i) with
    | .inl p => .inl ((i : Int) :: p)
    | .inr y => match tyK P V L t (i + 1) k with
      | .inl p => .inl p
      | .inr q => .inr (y :: q)
theorem tyK_args (P : Pg) (V L : Env) (t : Tm) : ∀ (r : List Tm) (i k : Nat), (∀ j, r[j]? = t.args[i + j]?) → i + r.length = t.args.length →
    tyK P V L t i (r.length + k) = match tyA P t.op t.nm t.ty V L i r with
      | .inl p => .inl p
      | .inr a => match tyK P V L t t.args.length k with
        | .inl p => .inl p
        | .inr b => .inr (a ++ b)
  | [], i, k, _, hl => by
    simp only [List.length_nil, Nat.zero_add, tyA]
    rw [show i = t.args.length by simpa using hl]
    cases tyK P V L t t.args.length k <;> rfl
  | a :: r, i, k, hj, hl => by
    have hi : i < t.args.length := by simp at hl; omega
    have ha : t.args[i]? = some a := by have := hj 0; simpa using this.symm
    have e1 : kidE P V L t i = (argV t.op t.nm t.ty i V, argL t.op t.nm t.ty L) := by unfold kidE; rw [if_pos hi]
    have e2 : kidT t i = a := by unfold kidT; rw [if_pos hi, List.getD_eq_getElem?_getD, ha]; rfl
    have ih := tyK_args P V L t r (i + 1) k (fun j => by have := hj (j + 1); simp at this; rw [this]; congr 1; omega) (by simp at hl; omega)
    rw [List.length_cons, show r.length + 1 + k = (r.length + k) + 1 by omega, tyK, e1, e2, tyA, ih]
    cases tyT P (argV t.op t.nm t.ty i V) (argL t.op t.nm t.ty L) a with
    | inl p => rfl
    | inr y =>
      cases tyA P t.op t.nm t.ty V L (i + 1) r with
      | inl p => rfl
      | inr q => cases tyK P V L t t.args.length k <;> rfl
theorem tyK_cls (P : Pg) (V L : Env) (t : Tm) : ∀ (r : List (List Str × Tm)) (xs : List Xtor) (i : Nat), (∀ j, r[j]? = t.cls[i + j]?) → (∀ j, xs.getD j noXtor = (declAt P t.ty).xtors.getD (i + j) noXtor) →
    tyK P V L t (t.args.length + i) r.length = tyC P V L (t.args.length + i) xs r
  | [], xs, i, _, _ => by simp [tyK, tyC]
  | (ns, a) :: r, xs, i, hj, hx => by
    have ha : t.cls[i]? = some (ns, a) := by have := hj 0; simpa using this.symm
    have e1 : kidE P V L t (t.args.length + i) = (bindE ns (prodL (xs.headD noXtor)) V, L) := by
      unfold kidE
      rw [if_neg (by omega), Nat.add_sub_cancel_left, List.getD_eq_getElem?_getD, ha]
      have := hx 0
      rw [Nat.add_zero] at this
      rw [← this]
      cases xs <;> rfl
    have e2 : kidT t (t.args.length + i) = a := by unfold kidT; rw [if_neg (by omega), Nat.add_sub_cancel_left, List.getD_eq_getElem?_getD, ha]; rfl
    have ih := tyK_cls P V L t r xs.tail (i + 1) (fun j => by have := hj (j + 1); simp at this; rw [this]; congr 1; omega) (fun j => by
      have := hx (j + 1)
      rw [show i + 1 + j = i + (j + 1) by omega, ← this]
      cases xs <;> simp)
    rw [List.length_cons, tyK, e1, e2, tyC, show t.args.length + i + 1 = t.args.length + (i + 1) by omega, ih]
theorem tyT_kids (P : Pg) (V L : Env) (t : Tm) : tyT P V L t = match tyK P V L t 0 (t.args.length + t.cls.length) with
    | .inl p => .inl p
    | .inr ps => ruleS P V L t.op t.n t.nm t.ty ps := by
  rw [tyK_args P V L t t.args 0 t.cls.length (fun j => by rw [Nat.zero_add]) (by simp)]
  have h := tyK_cls P V L t t.cls (declAt P t.ty).xtors 0 (fun j => by rw [Nat.zero_add]) (fun j => by rw [Nat.zero_add])
  rw [Nat.add_zero] at h
  rw [h]
  cases t with
  | mk op n nm ty args cls =>
    rw [tyT]
    show (match tyA P op nm ty V L 0 args with | .inl p => _ | .inr a => _) = _
    simp only [Tm.args, Tm.cls, Tm.op, Tm.nm, Tm.ty, Tm.n]
    cases tyA P op nm ty V L 0 args with
    | inl p => rfl
    | inr a => cases tyC P V L args.length (declAt P ty).xtors cls <;> rfl
theorem tyK_len (P : Pg) (V L : Env) (t : Tm) : ∀ (k i : Nat) (ps : List Int), tyK P V L t i k = .inr ps → ps.length = k
  | 0, i, ps, h => by rw [tyK] at h; cases h; rfl
  | k + 1, i, ps, h => by
    rw [tyK] at h
    cases hy : tyT P (kidE P V L t i).1 (kidE P V L t i).2 (kidT t i) with
    | inl p => rw [hy] at h; cases h
    | inr y =>
      rw [hy] at h
      cases hk : tyK P V L t (i + 1) k with
      | inl p => rw [hk] at h; cases h
      | inr q => rw [hk] at h; cases h; rw [List.length_cons, tyK_len P V L t k (i + 1) q hk]
end Go.Proofs.YtkdglplfcpindaaGreatDoor
