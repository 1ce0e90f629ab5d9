/- Arguments opened: declarations, functions, programs. -/
import Derived.Test.YtogmjgccopmplaaGreatQ8
namespace Go.Proofs.YtogmjgccopmplaaGreat
open Go.ChangeShapes Go.WideShapes Go.ChangeAt Go.RowKit Go.Deep
def BA (n : Nat) (l : List Arg) : Prop := l.length ≤ n
def BX (n : Nat) (l : List Xtor) : Prop := l.length ≤ n ∧ ∀ x ∈ l, BA n x.args
def BD (n : Nat) (l : List Decl) : Prop := l.length ≤ n ∧ ∀ d ∈ l, BX n d.xtors
theorem BA.mono {n m : Nat} {l : List Arg} (h : BA n l) (k : n ≤ m) : BA m l := Nat.le_trans h k
theorem BX.mono {n m : Nat} {l : List Xtor} (h : BX n l) (k : n ≤ m) : BX m l := ⟨Nat.le_trans h.1 k, fun x hx => (h.2 x hx).mono k⟩
theorem BD.mono {n m : Nat} {l : List Decl} (h : BD n l) (k : n ≤ m) : BD m l := ⟨Nat.le_trans h.1 k, fun d hd => (h.2 d hd).mono k⟩
def BF (n : Nat) (l : List Fn) : Prop := l.length ≤ n ∧ ∀ f ∈ l, f.ps.length ≤ n ∧ uT f.body + 2 ≤ 4 * n
theorem BF.mono {n m : Nat} {l : List Fn} (h : BF n l) (k : n ≤ m) : BF m l := ⟨Nat.le_trans h.1 k, fun f hf => ⟨Nat.le_trans (h.2 f hf).1 k, by have := (h.2 f hf).2; omega⟩⟩
theorem Tryz.shape121 : shapeOf Tryz.prog 69 = some [(3, 0), (4, 1)] := by kernel_rfl
theorem Tryz.shape119 : shapeOf Tryz.prog 67 = some [(9, 0), (65, 1)] := by kernel_rfl
theorem Tryz.shape115 : shapeOf Tryz.prog 72 = some [(9, 0), (4, 1), (70, 2)] := by kernel_rfl
theorem Tryz.shape64 : shapeOf Tryz.prog 74 = some [(9, 0), (3, 1)] := by kernel_rfl
theorem Tryz.shape62 : shapeOf Tryz.prog 64 = some [(9, 0), (37, 1), (3, 2), (41, 3)] := by kernel_rfl
theorem Tryz.shape25 : shapeOf Tryz.prog 25 = some [(22, 0), (23, 1)] := by kernel_rfl
theorem Tryz.cells121 : Tryz.prog.cellsOf 69 = 2 := by kernel_rfl
theorem Tryz.cells119 : Tryz.prog.cellsOf 67 = 2 := by kernel_rfl
theorem Tryz.cells115 : Tryz.prog.cellsOf 72 = 3 := by kernel_rfl
theorem Tryz.cells64 : Tryz.prog.cellsOf 74 = 2 := by kernel_rfl
theorem Tryz.cells62 : Tryz.prog.cellsOf 64 = 9 := by kernel_rfl
theorem Tryz.cells25 : Tryz.prog.cellsOf 25 = 2 := by kernel_rfl
theorem Tryz.cells117 : Tryz.prog.cellsOf 65 = 1 := by kernel_rfl
theorem Tryz.cells113 : Tryz.prog.cellsOf 70 = 1 := by kernel_rfl
theorem Tryz.cells60 : Tryz.prog.cellsOf 37 = 1 := by kernel_rfl
theorem Tryz.cells22 : Tryz.prog.cellsOf 22 = 1 := by kernel_rfl
theorem Tryz.cells23 : Tryz.prog.cellsOf 23 = 1 := by kernel_rfl
theorem Tryz.u117 : Tryz.prog.underlying 65 = some (.slice 69) := by kernel_rfl
theorem Tryz.u113 : Tryz.prog.underlying 70 = some (.slice 67) := by kernel_rfl
theorem Tryz.u22 : Tryz.prog.underlying 22 = some (.slice 72) := by kernel_rfl
theorem Tryz.u60 : Tryz.prog.underlying 37 = some (.slice 74) := by kernel_rfl
theorem Tryz.u23 : Tryz.prog.underlying 23 = some (.slice 64) := by kernel_rfl
section
variable {H : Type} {enc : TypeId × Value → H} {w : World} {base : Nat} {spare : Nat → Bool} {held : Bool}
theorem open_args {fuel : Nat} {v : Value} {x : DataW H × List MemPlace} (h : DataW.trod enc Tryz.prog w base spare held fuel 65 [v] = some x) : ∃ l, RArgs w v l ∧ BA (Rows.uptoBulk x.1) l := by
  obtain ⟨A, len, cap, bs, hcs, hl, hm, hbl, hbk, hi⟩ := elems_of Tryz.u117 (by rw [Tryz.cells121]; decide) h
  obtain rfl : v = .slice A len cap := by simpa using hcs
  have hex : ∀ i, i < len → ∃ a : Arg, ∃ b o, A = some ⟨b, o, none⟩ ∧ b < w.heap.size ∧ w.cell? ⟨b, o + i * 2, none⟩ = some (.int .i64 a.ty) ∧ w.cell? ⟨b, o + i * 2 + 1, none⟩ = some (.bool a.co) := fun i hlt => by
    obtain ⟨b, o, cs', n, y, rfl, hcl, hat, ht, -⟩ := hi i hlt
    rw [Tryz.cells121] at hcl hat
    obtain ⟨_, _, _, _, hf⟩ := fields_of Tryz.shape121 ht
    obtain ⟨n0, y0, h0, -⟩ := hf 0 3 0 rfl
    obtain ⟨n1, y1, h1, -⟩ := hf 1 4 1 rfl
    rw [Tryz.cells3] at h0
    rw [Tryz.cells4] at h1
    obtain ⟨t, e0, _, _⟩ := DataW.trod_int Tryz.u3 h0
    obtain ⟨co, e1, _⟩ := DataW.trod_bool Tryz.u4 h1
    have c0 := (hat 0 (by omega)).trans (take_one e0)
    have c1 := (hat 1 (by omega)).trans (take_one e1)
    exact ⟨⟨t, co⟩, b, o, rfl, cell_lt c0, by simpa using c0, by rw [Nat.add_assoc]; exact c1⟩
  obtain ⟨l, hll, hp⟩ := list_of len hex
  subst hll
  have := bulk_len bs
  exact ⟨l, ⟨A, cap, rfl, hl, hm, hp⟩, by show l.length ≤ _; omega⟩
theorem open_xtors {fuel : Nat} {v : Value} {x' : DataW H × List MemPlace} (h : DataW.trod enc Tryz.prog w base spare held fuel 70 [v] = some x') : ∃ l, RXtors w v l ∧ BX (Rows.uptoBulk x'.1) l := by
  obtain ⟨A, len, cap, bs, hcs, hl, hm, hbl, hbk, hi⟩ := elems_of Tryz.u113 (by rw [Tryz.cells119]; decide) h
  obtain rfl : v = .slice A len cap := by simpa using hcs
  have hex : ∀ i, i < len → ∃ x : Xtor, ∃ b o va, A = some ⟨b, o, none⟩ ∧ b < w.heap.size ∧ w.cell? ⟨b, o + i * 2, none⟩ = some (.string x.name) ∧ w.cell? ⟨b, o + i * 2 + 1, none⟩ = some va ∧ (RArgs w va x.args ∧ x.name.size ≤ maxLen) ∧ BA (Rows.uptoBulk x'.1) x.args := fun i hlt => by
    obtain ⟨b, o, cs', n, y, rfl, hcl, hat, ht, hy⟩ := hi i hlt
    rw [Tryz.cells119] at hcl hat
    have hby := bulk_mem (List.mem_of_getElem? hy)
    obtain ⟨_, zs, -, hzk, hf⟩ := fields_of Tryz.shape119 ht
    obtain ⟨n0, y0, h0, -⟩ := hf 0 9 0 rfl
    obtain ⟨n1, y1, h1, g1⟩ := hf 1 65 1 rfl
    have hy1 := bulk_mem (List.mem_of_getElem? g1)
    rw [Tryz.cells9] at h0
    rw [Tryz.cells117] at h1
    obtain ⟨s, e0, _, hs⟩ := DataW.trod_string Tryz.u9 h0
    obtain ⟨va, hva⟩ : ∃ va, (cs'.drop 1).take 1 = [va] := ⟨_, one_of (by omega)⟩
    rw [hva] at h1
    obtain ⟨la, hla, hlb⟩ := open_args h1
    have c0 := (hat 0 (by omega)).trans (take_one e0)
    have c1 := (hat 1 (by omega)).trans (take_one hva)
    exact ⟨⟨s, la⟩, b, o, va, rfl, cell_lt c0, by simpa using c0, by rw [Nat.add_assoc]; exact c1, ⟨hla, hs⟩, hlb.mono (by omega)⟩
  obtain ⟨l, hll, hp⟩ := list_of len hex
  subst hll
  have := bulk_len bs
  refine ⟨l, ⟨A, cap, rfl, hl, hm, fun i y hy => ?_⟩, by omega, fun y hy => ?_⟩
  · obtain ⟨b, o, va, e1, e2, e3, e4, e5, _⟩ := hp i y hy
    exact ⟨b, o, va, e1, e2, e3, e4, e5⟩
  · obtain ⟨i, hi'⟩ := List.mem_iff_getElem?.1 hy
    obtain ⟨b, o, va, e1, e2, e3, e4, _, e6⟩ := hp i y hi'
    exact e6
theorem open_decls {fuel : Nat} {v : Value} {x' : DataW H × List MemPlace} (h : DataW.trod enc Tryz.prog w base spare held fuel 22 [v] = some x') : ∃ l, RDecls w v l ∧ BD (Rows.uptoBulk x'.1) l := by
  obtain ⟨A, len, cap, bs, hcs, hl, hm, hbl, hbk, hi⟩ := elems_of Tryz.u22 (by rw [Tryz.cells115]; decide) h
  obtain rfl : v = .slice A len cap := by simpa using hcs
  have hex : ∀ i, i < len → ∃ d : Decl, ∃ b o va, A = some ⟨b, o, none⟩ ∧ b < w.heap.size ∧ w.cell? ⟨b, o + i * 3, none⟩ = some (.string d.name) ∧ w.cell? ⟨b, o + i * 3 + 1, none⟩ = some (.bool d.codata) ∧ w.cell? ⟨b, o + i * 3 + 2, none⟩ = some va ∧ (RXtors w va d.xtors ∧ d.name.size ≤ maxLen) ∧ BX (Rows.uptoBulk x'.1) d.xtors := fun i hlt => by
    obtain ⟨b, o, cs', n, y, rfl, hcl, hat, ht, hy⟩ := hi i hlt
    rw [Tryz.cells115] at hcl hat
    have hby := bulk_mem (List.mem_of_getElem? hy)
    obtain ⟨_, zs, -, hzk, hf⟩ := fields_of Tryz.shape115 ht
    obtain ⟨n0, y0, h0, -⟩ := hf 0 9 0 rfl
    obtain ⟨n1, y1, h1, -⟩ := hf 1 4 1 rfl
    obtain ⟨n2, y2, h2, g2⟩ := hf 2 70 2 rfl
    have hy2 := bulk_mem (List.mem_of_getElem? g2)
    rw [Tryz.cells9] at h0
    rw [Tryz.cells4] at h1
    rw [Tryz.cells113] at h2
    obtain ⟨s, e0, _, hs⟩ := DataW.trod_string Tryz.u9 h0
    obtain ⟨co, e1, _⟩ := DataW.trod_bool Tryz.u4 h1
    obtain ⟨va, hva⟩ : ∃ va, (cs'.drop 2).take 1 = [va] := ⟨_, one_of (by omega)⟩
    rw [hva] at h2
    obtain ⟨lx, hlx, hlb⟩ := open_xtors h2
    have c0 := (hat 0 (by omega)).trans (take_one e0)
    have c1 := (hat 1 (by omega)).trans (take_one e1)
    have c2 := (hat 2 (by omega)).trans (take_one hva)
    exact ⟨⟨s, co, lx⟩, b, o, va, rfl, cell_lt c0, by simpa using c0, by rw [Nat.add_assoc]; exact c1, by rw [Nat.add_assoc]; exact c2, ⟨hlx, hs⟩, hlb.mono (by omega)⟩
  obtain ⟨l, hll, hp⟩ := list_of len hex
  subst hll
  have := bulk_len bs
  refine ⟨l, ⟨A, cap, rfl, hl, hm, fun i y hy => ?_⟩, by omega, fun y hy => ?_⟩
  · obtain ⟨b, o, va, e1, e2, e3, e4, e5, e6, _⟩ := hp i y hy
    exact ⟨b, o, va, e1, e2, e3, e4, e5, e6⟩
  · obtain ⟨i, hi'⟩ := List.mem_iff_getElem?.1 hy
    obtain ⟨b, o, va, e1, e2, e3, e4, e5, _, e7⟩ := hp i y hi'
    exact e7
theorem open_prms {fuel : Nat} {v : Value} {x : DataW H × List MemPlace} (h : DataW.trod enc Tryz.prog w base spare held fuel 37 [v] = some x) : ∃ l, RPrms w v l ∧ l.length ≤ Rows.uptoBulk x.1 := by
  obtain ⟨A, len, cap, bs, hcs, hl, hm, hbl, hbk, hi⟩ := elems_of Tryz.u60 (by rw [Tryz.cells64]; decide) h
  obtain rfl : v = .slice A len cap := by simpa using hcs
  have hex : ∀ i, i < len → ∃ a : Prm, ∃ b o, A = some ⟨b, o, none⟩ ∧ b < w.heap.size ∧ w.cell? ⟨b, o + i * 2, none⟩ = some (.string a.nm) ∧ w.cell? ⟨b, o + i * 2 + 1, none⟩ = some (.int .i64 a.ty) ∧ a.nm.size ≤ maxLen := fun i hlt => by
    obtain ⟨b, o, cs', n, y, rfl, hcl, hat, ht, -⟩ := hi i hlt
    rw [Tryz.cells64] at hcl hat
    obtain ⟨_, _, _, _, hf⟩ := fields_of Tryz.shape64 ht
    obtain ⟨n0, y0, h0, -⟩ := hf 0 9 0 rfl
    obtain ⟨n1, y1, h1, -⟩ := hf 1 3 1 rfl
    rw [Tryz.cells9] at h0
    rw [Tryz.cells3] at h1
    obtain ⟨s, e0, _, hs⟩ := DataW.trod_string Tryz.u9 h0
    obtain ⟨t, e1, _, _⟩ := DataW.trod_int Tryz.u3 h1
    have c0 := (hat 0 (by omega)).trans (take_one e0)
    have c1 := (hat 1 (by omega)).trans (take_one e1)
    exact ⟨⟨s, t⟩, b, o, rfl, cell_lt c0, by simpa using c0, by rw [Nat.add_assoc]; exact c1, hs⟩
  obtain ⟨l, hll, hp⟩ := list_of len hex
  subst hll
  have := bulk_len bs
  exact ⟨l, ⟨A, cap, rfl, hl, hm, hp⟩, by omega⟩
set_option maxRecDepth 10000 in
theorem open_funs {fuel : Nat} {v : Value} {x' : DataW H × List MemPlace} (h : DataW.trod enc Tryz.prog w base spare held fuel 23 [v] = some x') : ∃ l, RFns w v l ∧ BF (Rows.uptoBulk x'.1) l := by
  obtain ⟨A, len, cap, bs, hcs, hl, hm, hbl, hbk, hi⟩ := elems_of Tryz.u23 (by rw [Tryz.cells62]; decide) h
  obtain rfl : v = .slice A len cap := by simpa using hcs
  have hex : ∀ i, i < len → ∃ f : Fn, (∃ b o vp xa xc k, A = some ⟨b, o, none⟩ ∧ b < w.heap.size ∧ w.cell? ⟨b, o + i * 9, none⟩ = some (.string f.nm) ∧ w.cell? ⟨b, o + i * 9 + 1, none⟩ = some vp ∧ w.cell? ⟨b, o + i * 9 + 2, none⟩ = some (.int .i64 f.res) ∧
      C6 w b (o + i * 9 + 3) f.body xa xc ∧ f.nm.size ≤ maxLen ∧ RPrms w vp f.ps ∧ RT w k f.body xa xc) ∧ (f.ps.length ≤ Rows.uptoBulk x'.1 ∧ uT f.body + 2 ≤ 4 * Rows.uptoBulk x'.1) := fun i hlt => by
    obtain ⟨b, o, q, n, y, rfl, hql, hat, ht, hy⟩ := hi i hlt
    rw [Tryz.cells62] at hql hat
    have hby := bulk_mem (List.mem_of_getElem? hy)
    obtain ⟨_, zs, -, hzk, hf⟩ := fields_of Tryz.shape62 ht
    obtain ⟨n0, y0, h0, -⟩ := hf 0 9 0 rfl
    obtain ⟨n1, y1, h1, g1⟩ := hf 1 37 1 rfl
    obtain ⟨n2, y2, h2, -⟩ := hf 2 3 2 rfl
    obtain ⟨n3, y3, h3, g3⟩ := hf 3 41 3 rfl
    have hy1 := bulk_mem (List.mem_of_getElem? g1)
    have hy3 := bulk_mem (List.mem_of_getElem? g3)
    match q, hql with
    | [q0, q1, q2, q3, q4, q5, q6, q7, q8], _ =>
      simp only [Tryz.cells9, Tryz.cells60, Tryz.cells3, Tryz.cells43, List.drop_succ_cons, List.drop_zero, List.take_succ_cons, List.take_zero] at h0 h1 h2 h3
      obtain ⟨s, e0, _, hs⟩ := DataW.trod_string Tryz.u9 h0
      obtain ⟨r, e2, _, _⟩ := DataW.trod_int Tryz.u3 h2
      cases e0; cases e2
      obtain ⟨ps, hps, hpl⟩ := open_prms h1
      obtain ⟨t, xa, xc, ht0, hr, hu⟩ := open_term _ n3 _ y3 (Nat.le_refl _) h3
      have c0 := hat 0 (by omega)
      have c1 := hat 1 (by omega)
      have c2 := hat 2 (by omega)
      have c3 := hat 3 (by omega)
      have c4 := hat 4 (by omega)
      have c5 := hat 5 (by omega)
      have c6 := hat 6 (by omega)
      have c7 := hat 7 (by omega)
      have c8 := hat 8 (by omega)
      rw [ht0] at c3 c4 c5 c6 c7 c8
      simp only [← Nat.add_assoc, Nat.add_zero, List.getElem?_cons_zero, List.getElem?_cons_succ] at c0 c1 c2 c3 c4 c5 c6 c7 c8
      exact ⟨⟨s, ps, r, t⟩, ⟨b, o, _, xa, xc, _, rfl, cell_lt c0, c0, c1, c2, ⟨c3, c4, c5, c6, c7, c8⟩, hs, hps, hr⟩, by dsimp only; omega, by dsimp only; omega⟩
  obtain ⟨l, hll, hp⟩ := list_of len hex
  subst hll
  have := bulk_len bs
  refine ⟨l, ⟨A, cap, rfl, hl, hm, fun i f hf => (hp i f hf).1⟩, by omega, fun f hf => ?_⟩
  obtain ⟨i, hi'⟩ := List.mem_iff_getElem?.1 hf
  exact (hp i f hi').2
set_option maxRecDepth 10000 in
theorem open_prog {fuel : Nat} {cs : List Value} {x : DataW H × List MemPlace} (h : DataW.trod enc Tryz.prog w base spare held fuel 25 cs = some x) : ∃ (P : Pg) (vd vf : Value), cs = [vd, vf] ∧ RDecls w vd P.decls ∧ RFns w vf P.funs ∧ BD (Rows.uptoBulk x.1) P.decls ∧ BF (Rows.uptoBulk x.1) P.funs := by
  obtain ⟨hlen, bs, hbl, hbk, hf⟩ := fields_of Tryz.shape25 h
  rw [Tryz.cells25] at hlen
  obtain ⟨n0, y0, h0, g0⟩ := hf 0 22 0 rfl
  obtain ⟨n1, y1, h1, g1⟩ := hf 1 23 1 rfl
  have hy0 := bulk_mem (List.mem_of_getElem? g0)
  have hy1 := bulk_mem (List.mem_of_getElem? g1)
  match cs, hlen with
  | [c0, c1], _ =>
    simp only [Tryz.cells22, Tryz.cells23, List.drop_succ_cons, List.drop_zero, List.take_succ_cons, List.take_zero] at h0 h1
    obtain ⟨d, hd, bd⟩ := open_decls h0
    obtain ⟨f, hf, bf⟩ := open_funs h1
    exact ⟨⟨d, f⟩, c0, c1, rfl, hd, hf, bd.mono (by omega), bf.mono (by omega)⟩
end
end Go.Proofs.YtogmjgccopmplaaGreat

/- free.go: the search visits a term. -/
namespace Go.Proofs.YtogmjgccopmplaaGreat
open Go.RowKit Go.Shelf
attribute [local go_sem] Oper.semAt_some
theorem Tal.blk {w w' : World} {b1 f1 b2 f2 n : Nat} {c1 c2 : Str → Int} {g1 g2 : Str → Bool} (h : Tal w b1 f1 b2 f2 n c1 g1 c2 g2) (hb : ∀ j, C4 b1 f1 b2 f2 j → w'.heap[j]? = w.heap[j]?) : Tal w' b1 f1 b2 f2 n c1 g1 c2 g2 :=
  ⟨h.a1.block (hb _ (.inl rfl)), h.s1.block (hb _ (.inr (.inl rfl))), h.a2.block (hb _ (.inr (.inr (.inl rfl)))), h.s2.block (hb _ (.inr (.inr (.inr rfl))))⟩
theorem or_step (G d p q : Bool) : (G || (d && (p || q))) = ((G || (d && p)) || (d && q)) := by cases G <;> cases d <;> cases p <;> cases q <;> rfl
theorem any_snoc {α : Type} (f : α → Bool) (l : List α) (y : α) : (l ++ [y]).any f = (l.any f || f y) := by simp
theorem Tal.same {w : World} {b1 f1 b2 f2 n m : Nat} {c1 c2 d1 d2 : Str → Int} {g1 g2 h1 h2 : Str → Bool} (h : Tal w b1 f1 b2 f2 n c1 g1 c2 g2) (e0 : n ≤ m) (e1 : ∀ k, d1 k = c1 k) (e2 : ∀ k, h1 k = g1 k) (e3 : ∀ k, d2 k = c2 k) (e4 : ∀ k, h2 k = g2 k) : Tal w b1 f1 b2 f2 m d1 h1 d2 h2 := by
  rw [funext e1, funext e2, funext e3, funext e4]; exact h.mono e0
set_option maxHeartbeats 8000000 in
set_option maxRecDepth 100000 in
theorem visit_any (wA : World) (b1 f1 b2 f2 : Nat) (hap : Apart wA.heap.size b1 f1 b2 f2) : ∀ (k : Nat) (t : Tm) (va vc : Value) (n : Nat) (c1 : Str → Int) (g1 : Str → Bool) (c2 : Str → Int) (g2 : Str → Bool) (w : World),
    RT wA k t va vc → Below wA.heap.size wA w → Tal w b1 f1 b2 f2 n c1 g1 c2 g2 → n + uT t ≤ 1000000000000 → (∀ k, 0 ≤ c1 k ∧ c1 k + uT t ≤ 1000000000000) → (∀ k, 0 ≤ c2 k ∧ c2 k + uT t ≤ 1000000000000) →
    Calls Tryz.prog 80 #[srV b1 f1 b2 f2, tV t va vc] w fun e w' => e = .returned (.tuple #[]) ∧
      Tal w' b1 f1 b2 f2 (n + uT t) c1 (fun k => g1 k || (decide (c1 k = 0) && fvT t k)) c2 (fun k => g2 k || (decide (c2 k = 0) && flT t k)) ∧ Only (C4 b1 f1 b2 f2) w w' := by
  intro k
  have HAP := Lib.hid hap
  clear hap
  induction k with
  | zero => intro t va vc n c1 g1 c2 g2 w ht; exact ht.elim
  | succ k ih =>
    intro t va vc n c1 g1 c2 g2 w ht hA hT hn hb1 hb2
    have HT := Lib.hid ht; have HA := Lib.hid hA; have HTA := Lib.hid hT; have HN := Lib.hid hn; have HB1 := Lib.hid hb1; have HB2 := Lib.hid hb2; have HIH := Lib.hid ih
    obtain ⟨⟨hnm, -⟩, ⟨Aa, ca, rfl, -, -⟩, ⟨Bb, cb, rfl, -, -⟩⟩ := ht.form
    have HNM := Lib.hid hnm
    clear ht hA hT hn hb1 hb2 ih hnm
    have HU := Lib.hid (uT_kids t)
    have HV : Hid (∀ k, fvT t k = ((decide (t.op = 0) && eqS k t.nm) || (kids t).any (fvK k))) := fun k => fvT_kids k t
    have HL : Hid (∀ k, flT t k = ((decide (t.op = 12) && eqS k t.nm) || (kids t).any (flK k))) := fun k => flT_kids k t
    have HW1 : Hid (Ext w ((w.alloc (.cells #[.map (some b1), .map (some f1), .map (some b2), .map (some f2)] 133)).alloc (.cells #[.int .i64 t.op, .int .i64 t.n, .string t.nm, .int .i64 t.ty, .slice Aa t.args.length ca, .slice Bb t.cls.length cb] 41))) := Ext.al2 _ _ _
    have hs0 := ((Ext.al (w.alloc (.cells #[.map (some b1), .map (some f1), .map (some b2), .map (some f2)] 133)) (.cells #[.int .i64 t.op, .int .i64 t.n, .string t.nm, .int .i64 t.ty, .slice Aa t.args.length ca, .slice Bb t.cls.length cb] 41)).block _ (heap_lt (heapNew _ _))).trans (heapNew w (.cells #[.map (some b1), .map (some f1), .map (some b2), .map (some f2)] 133))
    have ht0 := heapNew (w.alloc (.cells #[.map (some b1), .map (some f1), .map (some b2), .map (some f2)] 133)) (.cells #[.int .i64 t.op, .int .i64 t.n, .string t.nm, .int .i64 t.ty, .slice Aa t.args.length ca, .slice Bb t.cls.length cb] 41)
    rw [World.size_alloc] at ht0
    refine callsIn_wide.1 (callsIn_of_wp_marks (n := 0) Tryz.func80 rfl trivial ?_ rfl)
    simp only [Tryz.ntmps80, List.size_toArray, List.length_cons, List.length_nil, Nat.reduceAdd, Nat.reduceSub, Array.replicate_succ, Array.replicate_zero, List.push_toArray, List.append_toArray, List.nil_append, List.cons_append]
    gi_wp2
    all_goals generalize (w.alloc _).alloc _ = w1 at *
    focus
      have h0 : (t.op == 0) = true := by assumption
      have H0 : Hid (t.op = 0) := by show t.op = 0; simpa using h0
      refine ⟨trivial, rfl, ?_⟩
      (with_reducible refine (callsIn_wide.2 (use_any b1 f1 n n c1 g1 t.nm _ (HTA.out.ext HW1.out).a1 (HTA.out.ext HW1.out).s1 HNM.out (by have := HN.out; unfold maxLen; omega))).mono ?_)
      rintro e w5 ⟨rfl, hs5, ho5⟩
      have HT5 : Hid (Tal w5 b1 f1 b2 f2 (n + 1) c1 (fun k => g1 k || (eqS k t.nm && decide (c1 t.nm = 0))) c2 g2) := (HTA.out.ext HW1.out).setS1 HAP.out (Nat.le_succ _) hs5 ho5
      have HO5 : Hid (Only (C4 b1 f1 b2 f2) w1 w5) := ho5.mono (fun j _ h => .inr (.inl h))
      have HG5 : Hid (∀ k, (g1 k || (eqS k t.nm && decide (c1 t.nm = 0)) || (decide (c1 k = 0) && (kids t).any (fvK k))) = (g1 k || (decide (c1 k = 0) && fvT t k))) := fun k => by
        rw [HV.out k, decide_eq_true H0.out, Bool.true_and, Bool.and_or_distrib_left, Bool.or_assoc]
        cases he : eqS k t.nm
        · simp
        · rw [eqS_iff.1 he]; simp
      have HH5 : Hid (∀ k, (g2 k || (decide (c2 k = 0) && (kids t).any (flK k))) = (g2 k || (decide (c2 k = 0) && flT t k))) := fun k => by
        rw [HL.out k, decide_eq_false (show ¬ t.op = 12 by rw [H0.out]; decide), Bool.false_and, Bool.false_or]
      have hs0 := (HO5.out.block _ (heap_lt hs0) (fun h => by have := HTA.out.lt _ h; omega)).trans hs0
      have ht0 := (HO5.out.block _ (heap_lt ht0) (fun h => by have := HTA.out.lt _ h; omega)).trans ht0
      have HS0 := Lib.hid hs0
      clear hs5 ho5
      obtain ⟨t0, t1, t2, t3, t4, t5⟩ := cells6 ht0
      gi_wp2
    rotate_left
    focus
      have h0 : (t.op == 12) = true := by assumption
      have H0 : Hid (t.op = 12) := by show t.op = 12; simpa using h0
      refine ⟨trivial, rfl, ?_⟩
      (with_reducible refine (callsIn_wide.2 (use_any b2 f2 n n c2 g2 t.nm _ (HTA.out.ext HW1.out).a2 (HTA.out.ext HW1.out).s2 HNM.out (by have := HN.out; unfold maxLen; omega))).mono ?_)
      rintro e w5 ⟨rfl, hs5, ho5⟩
      have HT5 : Hid (Tal w5 b1 f1 b2 f2 (n + 1) c1 g1 c2 (fun k => g2 k || (eqS k t.nm && decide (c2 t.nm = 0)))) := (HTA.out.ext HW1.out).setS2 HAP.out (Nat.le_succ _) hs5 ho5
      have HO5 : Hid (Only (C4 b1 f1 b2 f2) w1 w5) := ho5.mono (fun j _ h => .inr (.inr (.inr h)))
      have HG5 : Hid (∀ k, (g1 k || (decide (c1 k = 0) && (kids t).any (fvK k))) = (g1 k || (decide (c1 k = 0) && fvT t k))) := fun k => by
        rw [HV.out k, decide_eq_false (show ¬ t.op = 0 by rw [H0.out]; decide), Bool.false_and, Bool.false_or]
      have HH5 : Hid (∀ k, (g2 k || (eqS k t.nm && decide (c2 t.nm = 0)) || (decide (c2 k = 0) && (kids t).any (flK k))) = (g2 k || (decide (c2 k = 0) && flT t k))) := fun k => by
        rw [HL.out k, decide_eq_true H0.out, Bool.true_and, Bool.and_or_distrib_left, Bool.or_assoc]
        cases he : eqS k t.nm
        · simp
        · rw [eqS_iff.1 he]; simp
      have hs0 := (HO5.out.block _ (heap_lt hs0) (fun h => by have := HTA.out.lt _ h; omega)).trans hs0
      have ht0 := (HO5.out.block _ (heap_lt ht0) (fun h => by have := HTA.out.lt _ h; omega)).trans ht0
      have HS0 := Lib.hid hs0
      clear hs5 ho5
      obtain ⟨t0, t1, t2, t3, t4, t5⟩ := cells6 ht0
      gi_wp2
    rotate_left
    focus
      have h0 : (t.op == 0) = false := by assumption
      have h12 : (t.op == 12) = false := by assumption
      have HT5 : Hid (Tal w1 b1 f1 b2 f2 (n + 1) c1 g1 c2 g2) := (HTA.out.ext HW1.out).mono (Nat.le_succ _)
      have HO5 : Hid (Only (C4 b1 f1 b2 f2) w1 w1) := Only.rf _ _
      have HG5 : Hid (∀ k, (g1 k || (decide (c1 k = 0) && (kids t).any (fvK k))) = (g1 k || (decide (c1 k = 0) && fvT t k))) := fun k => by
        rw [HV.out k, decide_eq_false (show ¬ t.op = 0 by simpa using h0), Bool.false_and, Bool.false_or]
      have HH5 : Hid (∀ k, (g2 k || (decide (c2 k = 0) && (kids t).any (flK k))) = (g2 k || (decide (c2 k = 0) && flT t k))) := fun k => by
        rw [HL.out k, decide_eq_false (show ¬ t.op = 12 by simpa using h12), Bool.false_and, Bool.false_or]
      have HS0 := Lib.hid hs0
      obtain ⟨w5, hw5⟩ : ∃ w5 : World, w5 = w1 := ⟨_, rfl⟩
      subst hw5
      obtain ⟨t0, t1, t2, t3, t4, t5⟩ := cells6 ht0
    all_goals
      obtain ⟨G1, H1, HT5, HG5, HH5⟩ : ∃ G1 H1, Hid (Tal w5 b1 f1 b2 f2 (n + 1) c1 G1 c2 H1) ∧ Hid (∀ k, (G1 k || (decide (c1 k = 0) && (kids t).any (fvK k))) = (g1 k || (decide (c1 k = 0) && fvT t k))) ∧ Hid (∀ k, (H1 k || (decide (c2 k = 0) && (kids t).any (flK k))) = (g2 k || (decide (c2 k = 0) && flT t k))) := ⟨_, _, HT5, HG5, HH5⟩
      have HOW : Hid (Only (C4 b1 f1 b2 f2) w w5) := (Only.of_ext HW1.out).tr HO5.out
      have HAW : Hid (Below wA.heap.size wA w5) := HA.out.trans (HOW.out.below HA.out.size HAP.out.ge)
      refine ⟨trivial, rfl, ?_⟩
      (with_reducible refine (callsIn_wide.2 (parts_any t _ _ _)).mono ?_)
      rintro e w6 ⟨rfl, rfl⟩
      gi_wp2
      have hg6 := heapNew w5 (.cells #[.int .i64 t.op, .int .i64 t.n, .string t.nm, .int .i64 t.ty, .slice Aa t.args.length ca, .slice Bb t.cls.length cb] 41)
      have hE6 := Ext.al w5 (.cells #[.int .i64 t.op, .int .i64 t.n, .string t.nm, .int .i64 t.ty, .slice Aa t.args.length ca, .slice Bb t.cls.length cb] 41)
      have hz6 : w5.heap.size < (w5.alloc (.cells #[.int .i64 t.op, .int .i64 t.n, .string t.nm, .int .i64 t.ty, .slice Aa t.args.length ca, .slice Bb t.cls.length cb] 41)).heap.size := by simp
      generalize w5.alloc _ = w6 at *
      have HLT := Lib.hid HTA.out.lt
      have HZW : Hid (w.heap.size < w5.heap.size) := heap_lt HS0.out
      have HIT := Lib.hid (parts_iter (C4 b1 f1 b2 f2) wA w6 k t _ _ w5.heap.size HT.out (HAW.out.trans (hE6.mono HAW.out.size)) HAP.out.ge hg6 (fun hj => by have := HLT.out _ hj; have := HZW.out; omega))
      have HT6 := Lib.hid (HT5.out.ext hE6)
      have HO6 : Hid (Only (C4 b1 f1 b2 f2) w w6) := HOW.out.tr (Only.of_ext hE6)
      have HA6 : Hid (Below wA.heap.size wA w6) := HAW.out.trans (hE6.mono HAW.out.size)
      have HS6 := Lib.hid ((hE6.block _ (heap_lt HS0.out)).trans HS0.out)
      have HZ6 : Hid (w5.heap.size < w6.heap.size) := hz6
      have HZA : Hid (wA.heap.size ≤ w.heap.size) := HA.out.size
      clear hz6 hg6 hE6 t0 t1 t2 t3 t4 t5 hs0 ht0 HS0 HT5 HW1 HO5 HOW HTA
      refine wpIn_wide.2 (wp_range (C := C4 b1 f1 b2 f2) (L := kids t) (R := RK wA k) rfl (enters_of Tryz.func136 (by kernel_rfl) rfl) HIT.out
        (fun j hj => by have := HLT.out j hj; have := HZW.out; have := HZ6.out; omega) (fun y vs A h => h.size)
        (fun pre W => Below wA.heap.size wA W ∧ Only (C4 b1 f1 b2 f2) w W ∧ W.heap[w.heap.size]? = some (.cells #[.map (some b1), .map (some f1), .map (some b2), .map (some f2)] 133 (0, 0)) ∧ Tal W b1 f1 b2 f2 (n + 1 + uK pre) c1 (fun k => G1 k || (decide (c1 k = 0) && pre.any (fvK k))) c2 (fun k => H1 k || (decide (c2 k = 0) && pre.any (flK k))))
        (fun c W => False) ?hI ?hIx ?h0 ?hround ?hdone ?hstop)
      case hI =>
        rintro pre' A B ⟨h1, h2, h3, h4⟩ hb
        have z1 := HZW.out; have z2 := HZ6.out; have z3 := HZA.out
        exact ⟨h1.trans (hb.mono (by omega)), Only.belowNew h2 hb (by omega), (hb.block _ (by omega)).trans h3, h4.blk (fun j hj => hb.block _ (by have := HLT.out j hj; omega))⟩
      case hIx =>
        rintro c A B h _
        exact h
      case h0 => exact ⟨HA6.out, HO6.out, HS6.out, HT6.out.same (by simp [uK]) (fun _ => rfl) (fun k => by simp) (fun _ => rfl) (fun k => by simp)⟩
      case hround =>
        rintro l' pre y vs W hl' hpre ⟨i1, i2, i3, i4⟩ ⟨vn, xa, xc, rfl, hs, hty⟩ hsz
        have HS := Lib.hid hs; have HTY := Lib.hid hty
        obtain ⟨_, ⟨Ax, cx, rfl, -, -⟩, ⟨Bx, dx, rfl, -, -⟩⟩ := hty.form
        obtain ⟨An, cn, rfl, hcn, hmn⟩ := hs.form
        have I1 := Lib.hid i1; have I2 := Lib.hid i2; have I3 := Lib.hid i3; have I4 := Lib.hid i4
        have HPR := Lib.hid hpre
        clear i1 i2 i3 i4 hs hty hpre
        obtain ⟨⟨ns, lab⟩, x⟩ := y
        dsimp only at *
        gi_wp2
        refine ⟨Ext.al2 _ _ _, fun W2 hT => ?_⟩
        have hE7 := Ext.al2 W (.cells #[.slice An ns.length cn, .bool lab] 168) (.cells #[.int .i64 x.op, .int .i64 x.n, .string x.nm, .int .i64 x.ty, .slice Ax x.args.length cx, .slice Bx x.cls.length dx] 41)
        have hb7 := hT.kept _ _ (((Ext.al _ (.cells #[.int .i64 x.op, .int .i64 x.n, .string x.nm, .int .i64 x.ty, .slice Ax x.args.length cx, .slice Bx x.cls.length dx] 41)).block _ (heap_lt (heapNew W (.cells #[.slice An ns.length cn, .bool lab] 168)))).trans (heapNew W (.cells #[.slice An ns.length cn, .bool lab] 168))) (fun r h => by cases h)
        have hx7 := hT.kept _ _ (heapNew (W.alloc (.cells #[.slice An ns.length cn, .bool lab] 168)) (.cells #[.int .i64 x.op, .int .i64 x.n, .string x.nm, .int .i64 x.ty, .slice Ax x.args.length cx, .slice Bx x.cls.length dx] 41)) (fun r h => by cases h)
        rw [World.size_alloc] at hx7
        have hs7 := hT.kept _ _ ((hE7.block _ (heap_lt I3.out)).trans I3.out) (fun r h => by cases h)
        have HB7 : Hid (Below w6.heap.size W W2) := (hE7.mono hsz).trans (hT.only.below (B := w6.heap.size) (by simp; omega) (fun k h => by rw [h]; exact hl'))
        have HS7 : Hid (RStrs W2 (.slice An ns.length cn) ns) := by
          obtain ⟨A', c', e', q1, q2, q3⟩ := HS.out.below hE7
          refine ⟨A', c', e', q1, q2, fun i s hi => ?_⟩
          obtain ⟨b', o', e2, q4, q5, q6⟩ := q3 i s hi
          exact ⟨b', o', e2, by rw [hT.size]; exact q4, hT.cell _ _ q5, q6⟩
        have HT7 : Hid (Tal W2 b1 f1 b2 f2 (n + 1 + uK pre) c1 (fun k => G1 k || (decide (c1 k = 0) && pre.any (fvK k))) c2 (fun k => H1 k || (decide (c2 k = 0) && pre.any (flK k)))) := I4.out.blk (fun j hj => HB7.out.block _ (by have := HLT.out j hj; have := HZW.out; have := HZ6.out; omega))
        have HA7 : Hid (Below wA.heap.size wA W2) := I1.out.trans (HB7.out.mono (by have := HZA.out; have := HZW.out; have := HZ6.out; omega))
        have HO7 : Hid (Only (C4 b1 f1 b2 f2) w W2) := Only.belowNew I2.out HB7.out (by have := HZW.out; have := HZ6.out; omega)
        have HMK : Hid (uK pre + (2 * ns.length + uT x) ≤ uK (kids t)) := uK_pre HPR.out
        have HZ2 : Hid (W2.heap.size = W.heap.size + 2) := by show _ = _; rw [hT.size]; simp
        have HSX := Lib.hid hs7; have HX7 := Lib.hid hx7; have HBB := Lib.hid hb7
        have m0 := (Ext.al W2 (.cells #[.map (some b1), .map (some f1)] 130)).keep (cellAt hb7 0)
        have m1 := (Ext.al W2 (.cells #[.map (some b1), .map (some f1)] 130)).keep (cellAt hb7 1)
        have s0 := cellAt hs7 0
        have s1 := cellAt hs7 1
        have HSZ := Lib.hid hsz
        clear hE7 hb7 hx7 hs7 hT hsz hl' I1 I2 I3 I4 HPR HT6 HO6 HA6 HS6
        cases lab
        · gi_wp2
          have HEC := Lib.hid (Ext.al W2 (.cells #[.map (some b1), .map (some f1)] 130))
          have hgc := heapNew W2 (.cells #[.map (some b1), .map (some f1)] 130)
          clear m0 m1 s0 s1 
          generalize W2.alloc _ = W3 at *
          have HT3 := Lib.hid (HT7.out.ext HEC.out)
          have HLW : Hid (∀ j, w.heap.size ≤ j → ¬ C4 b1 f1 b2 f2 j) := fun j hj hc => by have := HLT.out j hc; omega
          have HZB : Hid (w.heap.size < w5.heap.size ∧ w5.heap.size < w6.heap.size ∧ w6.heap.size ≤ W.heap.size ∧ W2.heap.size = W.heap.size + 2) := ⟨HZW.out, HZ6.out, HSZ.out, HZ2.out⟩
          have HS3 := Lib.hid (HS7.out.below HEC.out)
          have HGC := Lib.hid hgc
          clear hgc
          refine ⟨trivial, rfl, ?_⟩
          (with_reducible refine (CallsIn.inRound l' (callsIn_wide.2 (enter_any b1 f1 (n + 1 + uK pre) c1 _ ns _ HS3.out HT3.out.a1 (by have := HMK.out; have := HN.out; have := HU.out; omega) (fun k => by have := HB1.out k; have := HU.out; omega)))).mono ?_)
          rintro e W4 ⟨rfl, hc4, ho4⟩
          have HT4 := Lib.hid (HT3.out.setA1 HAP.out (Nat.le_add_right _ _) hc4 ho4)
          have HO4 : Hid (Only (C4 b1 f1 b2 f2) W3 W4) := ho4.mono (fun j _ h => .inl h)
          have HS4 := Lib.hid (RStrs.only HO4.out HT3.out.is HS3.out)
          have HO24 : Hid (Only (C4 b1 f1 b2 f2) W2 W4) := (Only.of_ext HEC.out).tr HO4.out
          have HA4 : Hid (Below wA.heap.size wA W4) := HA7.out.trans (HO24.out.below HA7.out.size HAP.out.ge)
          have g4 := (HO4.out.block _ (heap_lt HGC.out) (HLW.out _ (by have := HZB.out; omega))).trans HGC.out
          have b4 := (HO24.out.block _ (heap_lt HBB.out) (HLW.out _ (by have := HZB.out; omega))).trans HBB.out
          have s4 := (HO24.out.block _ (heap_lt HSX.out) (HLW.out _ (Nat.le_refl _))).trans HSX.out
          have x4 := (HO24.out.block _ (heap_lt HX7.out) (HLW.out _ (by have := HZB.out; omega))).trans HX7.out
          have HG4 := Lib.hid g4; have HB4 := Lib.hid b4; have HS44 := Lib.hid s4
          have c40 := cellAt s4 0
          have c41 := cellAt s4 1
          have c42 := cellAt s4 2
          have c43 := cellAt s4 3
          obtain ⟨x0, x1, x2, x3, x44, x5⟩ := cells6 x4
          clear hc4 ho4 g4 b4 s4 x4
          gi_wp2
          refine ⟨trivial, rfl, ?_⟩
          (with_reducible refine (CallsIn.inRound l' (callsIn_wide.2 (HIH.out x _ _ _ _ _ _ _ W4 HTY.out HA4.out HT4.out (by have := HMK.out; have := HN.out; have := HU.out; omega) (fun k => by have := HB1.out k; have := HU.out; have := HMK.out; have := cntS_bounds k ns; show 0 ≤ c1 k + 1 * cntS ns k ∧ c1 k + 1 * cntS ns k + _ ≤ _; omega) (fun k => by have := HB2.out k; have := HU.out; have := HMK.out; omega)))).mono ?_)
          rintro e W5 ⟨rfl, ht5, ho5⟩
          have HT5 := Lib.hid ht5
          have HO5 := Lib.hid ho5
          have HS5 := Lib.hid (RStrs.only HO5.out HT4.out.is HS4.out)
          have g5 := (HO5.out.block _ (heap_lt HG4.out) (HLW.out _ (by have := HZB.out; omega))).trans HG4.out
          have b5 := (HO5.out.block _ (heap_lt HB4.out) (HLW.out _ (by have := HZB.out; omega))).trans HB4.out
          have HS55 := Lib.hid ((HO5.out.block _ (heap_lt HS44.out) (HLW.out _ (Nat.le_refl _))).trans HS44.out)
          have d0 := cellAt g5 0
          have d1 := cellAt g5 1
          have d2 := cellAt b5 0
          clear ht5 ho5 g5 b5 c40 c41 c42 c43 x0 x1 x2 x3 x44 x5
          gi_wp2
          refine ⟨trivial, rfl, ?_⟩
          (with_reducible refine (CallsIn.inRound l' (callsIn_wide.2 (leave_any b1 f1 _ _ _ ns _ HS5.out HT5.out.a1 (by have := HMK.out; have := HN.out; have := HU.out; omega) (fun k => by have := HB1.out k; have := HU.out; have := HMK.out; have := cntS_bounds k ns; show _ ≤ c1 k + 1 * cntS ns k ∧ c1 k + 1 * cntS ns k ≤ _; omega)))).mono ?_)
          rintro e W6 ⟨rfl, hc6, ho6⟩
          have HT6 := Lib.hid (HT5.out.setA1 HAP.out (Nat.le_add_right _ _) hc6 ho6)
          have HO6 : Hid (Only (C4 b1 f1 b2 f2) W5 W6) := ho6.mono (fun j _ h => .inl h)
          have HO26 : Hid (Only (C4 b1 f1 b2 f2) W2 W6) := (HO24.out.tr HO5.out).tr HO6.out
          clear hc6 ho6 d0 d1 d2
          gi_wp2
          refine ⟨HO26.out, HA7.out.trans (HO26.out.below HA7.out.size HAP.out.ge), HO7.out.tr HO26.out, (HO6.out.block _ (heap_lt HS55.out) (HLW.out _ (Nat.le_refl _))).trans HS55.out, HT6.out.same ?_ ?_ ?_ ?_ ?_⟩
          · rw [uK_append]; show _ ≤ n + 1 + (uK pre + (2 * ns.length + uT x + 0)); omega
          · intro k; show c1 k = c1 k + 1 * cntS ns k + -1 * cntS ns k; omega
          · intro k; show _ = (_ || (decide (c1 k + 1 * cntS ns k = 0) && fvT x k)); rw [any_snoc, fvK_step c1 (fun k => (HB1.out k).1) ns x k, or_step]
          · intro k; rfl
          · intro k; show _ = (_ || (decide (c2 k = 0) && flT x k)); rw [any_snoc, flK_lab, or_step]
        · have m2 := (Ext.al W2 (.cells #[.map (some b1), .map (some f1)] 130)).keep (cellAt HSX.out 2)
          have m3 := (Ext.al W2 (.cells #[.map (some b1), .map (some f1)] 130)).keep (cellAt HSX.out 3)
          have k0 := (Ext.al W2 (.cells #[.map (some b2), .map (some f2)] 130)).keep (cellAt HBB.out 0)
          gi_wp2
          have HEC := Lib.hid (Ext.al W2 (.cells #[.map (some b2), .map (some f2)] 130))
          have hgc := heapNew W2 (.cells #[.map (some b2), .map (some f2)] 130)
          clear m0 m1 s0 s1 m2 m3 k0
          generalize W2.alloc _ = W3 at *
          have HT3 := Lib.hid (HT7.out.ext HEC.out)
          have HLW : Hid (∀ j, w.heap.size ≤ j → ¬ C4 b1 f1 b2 f2 j) := fun j hj hc => by have := HLT.out j hc; omega
          have HZB : Hid (w.heap.size < w5.heap.size ∧ w5.heap.size < w6.heap.size ∧ w6.heap.size ≤ W.heap.size ∧ W2.heap.size = W.heap.size + 2) := ⟨HZW.out, HZ6.out, HSZ.out, HZ2.out⟩
          have HS3 := Lib.hid (HS7.out.below HEC.out)
          have HGC := Lib.hid hgc
          clear hgc
          refine ⟨trivial, rfl, ?_⟩
          (with_reducible refine (CallsIn.inRound l' (callsIn_wide.2 (enter_any b2 f2 (n + 1 + uK pre) c2 _ ns _ HS3.out HT3.out.a2 (by have := HMK.out; have := HN.out; have := HU.out; omega) (fun k => by have := HB2.out k; have := HU.out; omega)))).mono ?_)
          rintro e W4 ⟨rfl, hc4, ho4⟩
          have HT4 := Lib.hid (HT3.out.setA2 HAP.out (Nat.le_add_right _ _) hc4 ho4)
          have HO4 : Hid (Only (C4 b1 f1 b2 f2) W3 W4) := ho4.mono (fun j _ h => .inr (.inr (.inl h)))
          have HS4 := Lib.hid (RStrs.only HO4.out HT3.out.is HS3.out)
          have HO24 : Hid (Only (C4 b1 f1 b2 f2) W2 W4) := (Only.of_ext HEC.out).tr HO4.out
          have HA4 : Hid (Below wA.heap.size wA W4) := HA7.out.trans (HO24.out.below HA7.out.size HAP.out.ge)
          have g4 := (HO4.out.block _ (heap_lt HGC.out) (HLW.out _ (by have := HZB.out; omega))).trans HGC.out
          have b4 := (HO24.out.block _ (heap_lt HBB.out) (HLW.out _ (by have := HZB.out; omega))).trans HBB.out
          have s4 := (HO24.out.block _ (heap_lt HSX.out) (HLW.out _ (Nat.le_refl _))).trans HSX.out
          have x4 := (HO24.out.block _ (heap_lt HX7.out) (HLW.out _ (by have := HZB.out; omega))).trans HX7.out
          have HG4 := Lib.hid g4; have HB4 := Lib.hid b4; have HS44 := Lib.hid s4
          have c40 := cellAt s4 0
          have c41 := cellAt s4 1
          have c42 := cellAt s4 2
          have c43 := cellAt s4 3
          obtain ⟨x0, x1, x2, x3, x44, x5⟩ := cells6 x4
          clear hc4 ho4 g4 b4 s4 x4
          gi_wp2
          refine ⟨trivial, rfl, ?_⟩
          (with_reducible refine (CallsIn.inRound l' (callsIn_wide.2 (HIH.out x _ _ _ _ _ _ _ W4 HTY.out HA4.out HT4.out (by have := HMK.out; have := HN.out; have := HU.out; omega) (fun k => by have := HB1.out k; have := HU.out; have := HMK.out; omega) (fun k => by have := HB2.out k; have := HU.out; have := HMK.out; have := cntS_bounds k ns; show 0 ≤ c2 k + 1 * cntS ns k ∧ c2 k + 1 * cntS ns k + _ ≤ _; omega)))).mono ?_)
          rintro e W5 ⟨rfl, ht5, ho5⟩
          have HT5 := Lib.hid ht5
          have HO5 := Lib.hid ho5
          have HS5 := Lib.hid (RStrs.only HO5.out HT4.out.is HS4.out)
          have g5 := (HO5.out.block _ (heap_lt HG4.out) (HLW.out _ (by have := HZB.out; omega))).trans HG4.out
          have b5 := (HO5.out.block _ (heap_lt HB4.out) (HLW.out _ (by have := HZB.out; omega))).trans HB4.out
          have HS55 := Lib.hid ((HO5.out.block _ (heap_lt HS44.out) (HLW.out _ (Nat.le_refl _))).trans HS44.out)
          have d0 := cellAt g5 0
          have d1 := cellAt g5 1
          have d2 := cellAt b5 0
          clear ht5 ho5 g5 b5 c40 c41 c42 c43 x0 x1 x2 x3 x44 x5
          gi_wp2
          refine ⟨trivial, rfl, ?_⟩
          (with_reducible refine (CallsIn.inRound l' (callsIn_wide.2 (leave_any b2 f2 _ _ _ ns _ HS5.out HT5.out.a2 (by have := HMK.out; have := HN.out; have := HU.out; omega) (fun k => by have := HB2.out k; have := HU.out; have := HMK.out; have := cntS_bounds k ns; show _ ≤ c2 k + 1 * cntS ns k ∧ c2 k + 1 * cntS ns k ≤ _; omega)))).mono ?_)
          rintro e W6 ⟨rfl, hc6, ho6⟩
          have HT6 := Lib.hid (HT5.out.setA2 HAP.out (Nat.le_add_right _ _) hc6 ho6)
          have HO6 : Hid (Only (C4 b1 f1 b2 f2) W5 W6) := ho6.mono (fun j _ h => .inr (.inr (.inl h)))
          have HO26 : Hid (Only (C4 b1 f1 b2 f2) W2 W6) := (HO24.out.tr HO5.out).tr HO6.out
          clear hc6 ho6 d0 d1 d2
          gi_wp2
          refine ⟨HO26.out, HA7.out.trans (HO26.out.below HA7.out.size HAP.out.ge), HO7.out.tr HO26.out, (HO6.out.block _ (heap_lt HS55.out) (HLW.out _ (Nat.le_refl _))).trans HS55.out, HT6.out.same ?_ ?_ ?_ ?_ ?_⟩
          · rw [uK_append]; show _ ≤ n + 1 + (uK pre + (2 * ns.length + uT x + 0)); omega
          · intro k; rfl
          · intro k; show _ = (_ || (decide (c1 k = 0) && fvT x k)); rw [any_snoc, fvK_lab, or_step]
          · intro k; show c2 k = c2 k + 1 * cntS ns k + -1 * cntS ns k; omega
          · intro k; show _ = (_ || (decide (c2 k + 1 * cntS ns k = 0) && flT x k)); rw [any_snoc, flK_step c2 (fun k => (HB2.out k).1) ns x k, or_step]
      case hdone =>
        rintro W ⟨h1, h2, h3, h4⟩ hK
        have H2 := Lib.hid h2; have H4 := Lib.hid h4; have HK := Lib.hid hK
        clear h1 h2 h3 h4 hK
        gi_wp2
        refine ⟨by simp, .inl ⟨_, _, rfl, run_takeDeferred HK.out, ?_⟩⟩
        refine ⟨.tuple #[], by simp [results, go_sem], rfl, ?_, Only.putNew H2.out (by have := HZW.out; have := HZ6.out; omega) _⟩
        have H5 := H4.out.blk (w' := W.putObj w6.heap.size (.deferred none)) (fun j hj => World.putObj_heap_other (by have := HLT.out j hj; have := HZW.out; have := HZ6.out; omega))
        exact H5.same (by have := HU.out; omega) (fun _ => rfl) (fun k => (HG5.out k).symm) (fun _ => rfl) (fun k => (HH5.out k).symm)
      case hstop =>
        rintro c W h _
        exact h.elim
end Go.Proofs.YtogmjgccopmplaaGreat
