/- Arguments opened: declarations, functions, programs. -/
import Derived.Test.YtogmjgccopmplaaGreatQ8
namespace Go.Proofs.YtogmjgccopmplaaGreat
open Go.ChangeShapes Go.WideShapes Go.ChangeAt Go.RowKit Go.Deep

def BA (n : Nat) (l : List Arg) : Prop := l.length ≤ n
def BX (n : Nat) (l : List Xtor) : Prop := l.length ≤ n ∧ ∀ x ∈ l, BA n x.args
def BD (n : Nat) (l : List Decl) : Prop := l.length ≤ n ∧ ∀ d ∈ l, BX n d.xtors
theorem BA.mono {n m : Nat} {l : List Arg} (h : BA n l) (k : n ≤ m) : BA m l := Nat.le_trans h k
theorem BX.mono {n m : Nat} {l : List Xtor} (h : BX n l) (k : n ≤ m) : BX m l := ⟨Nat.le_trans h.1 k, fun x hx => (h.2 x hx).mono k⟩
theorem BD.mono {n m : Nat} {l : List Decl} (h : BD n l) (k : n ≤ m) : BD m l := ⟨Nat.le_trans h.1 k, fun d hd => (h.2 d hd).mono k⟩
def BF (n : Nat) (l : List Fn) : Prop := l.length ≤ n ∧ ∀ f ∈ l, f.ps.length ≤ n ∧ uT f.body + 2 ≤ 4 * n
theorem BF.mono {n m : Nat} {l : List Fn} (h : BF n l) (k : n ≤ m) : BF m l := ⟨Nat.le_trans h.1 k, fun f hf => ⟨Nat.le_trans (h.2 f hf).1 k, by have := (h.2 f hf).2; omega⟩⟩

theorem Tryz.shape121 : shapeOf Tryz.prog 69 = some [(3, 0), (4, 1)] := by kernel_rfl
theorem Tryz.shape119 : shapeOf Tryz.prog 67 = some [(9, 0), (65, 1)] := by kernel_rfl
theorem Tryz.shape115 : shapeOf Tryz.prog 72 = some [(9, 0), (4, 1), (70, 2)] := by kernel_rfl
theorem Tryz.shape64 : shapeOf Tryz.prog 74 = some [(9, 0), (3, 1)] := by kernel_rfl
theorem Tryz.shape62 : shapeOf Tryz.prog 64 = some [(9, 0), (37, 1), (3, 2), (41, 3)] := by kernel_rfl
theorem Tryz.shape25 : shapeOf Tryz.prog 25 = some [(22, 0), (23, 1)] := by kernel_rfl
theorem Tryz.cells121 : Tryz.prog.cellsOf 69 = 2 := by kernel_rfl
theorem Tryz.cells119 : Tryz.prog.cellsOf 67 = 2 := by kernel_rfl
theorem Tryz.cells115 : Tryz.prog.cellsOf 72 = 3 := by kernel_rfl
theorem Tryz.cells64 : Tryz.prog.cellsOf 74 = 2 := by kernel_rfl
theorem Tryz.cells62 : Tryz.prog.cellsOf 64 = 9 := by kernel_rfl
theorem Tryz.cells25 : Tryz.prog.cellsOf 25 = 2 := by kernel_rfl
theorem Tryz.cells117 : Tryz.prog.cellsOf 65 = 1 := by kernel_rfl
theorem Tryz.cells113 : Tryz.prog.cellsOf 70 = 1 := by kernel_rfl
theorem Tryz.cells60 : Tryz.prog.cellsOf 37 = 1 := by kernel_rfl
theorem Tryz.cells22 : Tryz.prog.cellsOf 22 = 1 := by kernel_rfl
theorem Tryz.cells23 : Tryz.prog.cellsOf 23 = 1 := by kernel_rfl
theorem Tryz.u117 : Tryz.prog.underlying 65 = some (.slice 69) := by kernel_rfl
theorem Tryz.u113 : Tryz.prog.underlying 70 = some (.slice 67) := by kernel_rfl
theorem Tryz.u22 : Tryz.prog.underlying 22 = some (.slice 72) := by kernel_rfl
theorem Tryz.u60 : Tryz.prog.underlying 37 = some (.slice 74) := by kernel_rfl
theorem Tryz.u23 : Tryz.prog.underlying 23 = some (.slice 64) := by kernel_rfl

section
variable {H : Type} {enc : TypeId × Value → H} {w : World} {base : Nat} {spare : Nat → Bool} {held : Bool}
theorem open_args {fuel : Nat} {v : Value} {x : DataW H × List MemPlace} (h : DataW.trod enc Tryz.prog w base spare held fuel 65 [v] = some x) : ∃ l, RArgs w v l ∧ BA (Rows.uptoBulk x.1) l := by
  obtain ⟨A, len, cap, bs, hcs, hl, hm, hbl, hbk, hi⟩ := elems_of Tryz.u117 (by rw [Tryz.cells121]; decide) h
  obtain rfl : v = .slice A len cap := by simpa using hcs
  have hex : ∀ i, i < len → ∃ a : Arg, ∃ b o, A = some ⟨b, o, none⟩ ∧ b < w.heap.size ∧ w.cell? ⟨b, o + i * 2, none⟩ = some (.int .i64 a.ty) ∧ w.cell? ⟨b, o + i * 2 + 1, none⟩ = some (.bool a.co) := fun i hlt => by
    obtain ⟨b, o, cs', n, y, rfl, hcl, hat, ht, -⟩ := hi i hlt
    rw [Tryz.cells121] at hcl hat
    obtain ⟨_, _, _, _, hf⟩ := fields_of Tryz.shape121 ht
    obtain ⟨n0, y0, h0, -⟩ := hf 0 3 0 rfl
    obtain ⟨n1, y1, h1, -⟩ := hf 1 4 1 rfl
    rw [Tryz.cells3] at h0
    rw [Tryz.cells4] at h1
    obtain ⟨t, e0, _, _⟩ := DataW.trod_int Tryz.u3 h0
    obtain ⟨co, e1, _⟩ := DataW.trod_bool Tryz.u4 h1
    have c0 := (hat 0 (by omega)).trans (take_one e0)
    have c1 := (hat 1 (by omega)).trans (take_one e1)
    exact ⟨⟨t, co⟩, b, o, rfl, cell_lt c0, by simpa using c0, by rw [Nat.add_assoc]; exact c1⟩
  obtain ⟨l, hll, hp⟩ := list_of len hex
  subst hll
  have := bulk_len bs
  exact ⟨l, ⟨A, cap, rfl, hl, hm, hp⟩, by show l.length ≤ _; omega⟩
theorem open_xtors {fuel : Nat} {v : Value} {x' : DataW H × List MemPlace} (h : DataW.trod enc Tryz.prog w base spare held fuel 70 [v] = some x') : ∃ l, RXtors w v l ∧ BX (Rows.uptoBulk x'.1) l := by
  obtain ⟨A, len, cap, bs, hcs, hl, hm, hbl, hbk, hi⟩ := elems_of Tryz.u113 (by rw [Tryz.cells119]; decide) h
  obtain rfl : v = .slice A len cap := by simpa using hcs
  have hex : ∀ i, i < len → ∃ x : Xtor, ∃ b o va, A = some ⟨b, o, none⟩ ∧ b < w.heap.size ∧ w.cell? ⟨b, o + i * 2, none⟩ = some (.string x.name) ∧ w.cell? ⟨b, o + i * 2 + 1, none⟩ = some va ∧ (RArgs w va x.args ∧ x.name.size ≤ maxLen) ∧ BA (Rows.uptoBulk x'.1) x.args := fun i hlt => by
    obtain ⟨b, o, cs', n, y, rfl, hcl, hat, ht, hy⟩ := hi i hlt
    rw [Tryz.cells119] at hcl hat
    have hby := bulk_mem (List.mem_of_getElem? hy)
    obtain ⟨_, zs, -, hzk, hf⟩ := fields_of Tryz.shape119 ht
    obtain ⟨n0, y0, h0, -⟩ := hf 0 9 0 rfl
    obtain ⟨n1, y1, h1, g1⟩ := hf 1 65 1 rfl
    have hy1 := bulk_mem (List.mem_of_getElem? g1)
    rw [Tryz.cells9] at h0
    rw [Tryz.cells117] at h1
    obtain ⟨s, e0, _, hs⟩ := DataW.trod_string Tryz.u9 h0
    obtain ⟨va, hva⟩ : ∃ va, (cs'.drop 1).take 1 = [va] := ⟨_, one_of (by omega)⟩
    rw [hva] at h1
    obtain ⟨la, hla, hlb⟩ := open_args h1
    have c0 := (hat 0 (by omega)).trans (take_one e0)
    have c1 := (hat 1 (by omega)).trans (take_one hva)
    exact ⟨⟨s, la⟩, b, o, va, rfl, cell_lt c0, by simpa using c0, by rw [Nat.add_assoc]; exact c1, ⟨hla, hs⟩, hlb.mono (by omega)⟩
  obtain ⟨l, hll, hp⟩ := list_of len hex
  subst hll
  have := bulk_len bs
  refine ⟨l, ⟨A, cap, rfl, hl, hm, fun i y hy => ?_⟩, by omega, fun y hy => ?_⟩
  · obtain ⟨b, o, va, e1, e2, e3, e4, e5, _⟩ := hp i y hy
    exact ⟨b, o, va, e1, e2, e3, e4, e5⟩
  · obtain ⟨i, hi'⟩ := List.mem_iff_getElem?.1 hy
    obtain ⟨b, o, va, e1, e2, e3, e4, _, e6⟩ := hp i y hi'
    exact e6
theorem open_decls {fuel : Nat} {v : Value} {x' : DataW H × List MemPlace} (h : DataW.trod enc Tryz.prog w base spare held fuel 22 [v] = some x') : ∃ l, RDecls w v l ∧ BD (Rows.uptoBulk x'.1) l := by
  obtain ⟨A, len, cap, bs, hcs, hl, hm, hbl, hbk, hi⟩ := elems_of Tryz.u22 (by rw [Tryz.cells115]; decide) h
  obtain rfl : v = .slice A len cap := by simpa using hcs
  have hex : ∀ i, i < len → ∃ d : Decl, ∃ b o va, A = some ⟨b, o, none⟩ ∧ b < w.heap.size ∧ w.cell? ⟨b, o + i * 3, none⟩ = some (.string d.name) ∧ w.cell? ⟨b, o + i * 3 + 1, none⟩ = some (.bool d.codata) ∧ w.cell? ⟨b, o + i * 3 + 2, none⟩ = some va ∧ (RXtors w va d.xtors ∧ d.name.size ≤ maxLen) ∧ BX (Rows.uptoBulk x'.1) d.xtors := fun i hlt => by
    obtain ⟨b, o, cs', n, y, rfl, hcl, hat, ht, hy⟩ := hi i hlt
    rw [Tryz.cells115] at hcl hat
    have hby := bulk_mem (List.mem_of_getElem? hy)
    obtain ⟨_, zs, -, hzk, hf⟩ := fields_of Tryz.shape115 ht
    obtain ⟨n0, y0, h0, -⟩ := hf 0 9 0 rfl
    obtain ⟨n1, y1, h1, -⟩ := hf 1 4 1 rfl
    obtain ⟨n2, y2, h2, g2⟩ := hf 2 70 2 rfl
    have hy2 := bulk_mem (List.mem_of_getElem? g2)
    rw [Tryz.cells9] at h0
    rw [Tryz.cells4] at h1
    rw [Tryz.cells113] at h2
    obtain ⟨s, e0, _, hs⟩ := DataW.trod_string Tryz.u9 h0
    obtain ⟨co, e1, _⟩ := DataW.trod_bool Tryz.u4 h1
    obtain ⟨va, hva⟩ : ∃ va, (cs'.drop 2).take 1 = [va] := ⟨_, one_of (by omega)⟩
    rw [hva] at h2
    obtain ⟨lx, hlx, hlb⟩ := open_xtors h2
    have c0 := (hat 0 (by omega)).trans (take_one e0)
    have c1 := (hat 1 (by omega)).trans (take_one e1)
    have c2 := (hat 2 (by omega)).trans (take_one hva)
    exact ⟨⟨s, co, lx⟩, b, o, va, rfl, cell_lt c0, by simpa using c0, by rw [Nat.add_assoc]; exact c1, by rw [Nat.add_assoc]; exact c2, ⟨hlx, hs⟩, hlb.mono (by omega)⟩
  obtain ⟨l, hll, hp⟩ := list_of len hex
  subst hll
  have := bulk_len bs
  refine ⟨l, ⟨A, cap, rfl, hl, hm, fun i y hy => ?_⟩, by omega, fun y hy => ?_⟩
  · obtain ⟨b, o, va, e1, e2, e3, e4, e5, e6, _⟩ := hp i y hy
    exact ⟨b, o, va, e1, e2, e3, e4, e5, e6⟩
  · obtain ⟨i, hi'⟩ := List.mem_iff_getElem?.1 hy
    obtain ⟨b, o, va, e1, e2, e3, e4, e5, _, e7⟩ := hp i y hi'
    exact e7
theorem open_prms {fuel : Nat} {v : Value} {x : DataW H × List MemPlace} (h : DataW.trod enc Tryz.prog w base spare held fuel 37 [v] = some x) : ∃ l, RPrms w v l ∧ l.length ≤ Rows.uptoBulk x.1 := by
  obtain ⟨A, len, cap, bs, hcs, hl, hm, hbl, hbk, hi⟩ := elems_of Tryz.u60 (by rw [Tryz.cells64]; decide) h
  obtain rfl : v = .slice A len cap := by simpa using hcs
  have hex : ∀ i, i < len → ∃ a : Prm, ∃ b o, A = some ⟨b, o, none⟩ ∧ b < w.heap.size ∧ w.cell? ⟨b, o + i * 2, none⟩ = some (.string a.nm) ∧ w.cell? ⟨b, o + i * 2 + 1, none⟩ = some (.int .i64 a.ty) ∧ a.nm.size ≤ maxLen := fun i hlt => by
    obtain ⟨b, o, cs', n, y, rfl, hcl, hat, ht, -⟩ := hi i hlt
    rw [Tryz.cells64] at hcl hat
    obtain ⟨_, _, _, _, hf⟩ := fields_of Tryz.shape64 ht
    obtain ⟨n0, y0, h0, -⟩ := hf 0 9 0 rfl
    obtain ⟨n1, y1, h1, -⟩ := hf 1 3 1 rfl
    rw [Tryz.cells9] at h0
    rw [Tryz.cells3] at h1
    obtain ⟨s, e0, _, hs⟩ := DataW.trod_string Tryz.u9 h0
    obtain ⟨t, e1, _, _⟩ := DataW.trod_int Tryz.u3 h1
    have c0 := (hat 0 (by omega)).trans (take_one e0)
    have c1 := (hat 1 (by omega)).trans (take_one e1)
    exact ⟨⟨s, t⟩, b, o, rfl, cell_lt c0, by simpa using c0, by rw [Nat.add_assoc]; exact c1, hs⟩
  obtain ⟨l, hll, hp⟩ := list_of len hex
  subst hll
  have := bulk_len bs
  exact ⟨l, ⟨A, cap, rfl, hl, hm, hp⟩, by omega⟩
set_option maxRecDepth 10000 in
theorem open_funs {fuel : Nat} {v : Value} {x' : DataW H × List MemPlace} (h : DataW.trod enc Tryz.prog w base spare held fuel 23 [v] = some x') : ∃ l, RFns w v l ∧ BF (Rows.uptoBulk x'.1) l := by
  obtain ⟨A, len, cap, bs, hcs, hl, hm, hbl, hbk, hi⟩ := elems_of Tryz.u23 (by rw [Tryz.cells62]; decide) h
  obtain rfl : v = .slice A len cap := by simpa using hcs
  have hex : ∀ i, i < len → ∃ f : Fn, (∃ b o vp xa xc k, A = some ⟨b, o, none⟩ ∧ b < w.heap.size ∧ w.cell? ⟨b, o + i * 9, none⟩ = some (.string f.nm) ∧ w.cell? ⟨b, o + i * 9 + 1, none⟩ = some vp ∧ w.cell? ⟨b, o + i * 9 + 2, none⟩ = some (.int .i64 f.res) ∧
      C6 w b (o + i * 9 + 3) f.body xa xc ∧ f.nm.size ≤ maxLen ∧ RPrms w vp f.ps ∧ RT w k f.body xa xc) ∧ (f.ps.length ≤ Rows.uptoBulk x'.1 ∧ uT f.body + 2 ≤ 4 * Rows.uptoBulk x'.1) := fun i hlt => by
    obtain ⟨b, o, q, n, y, rfl, hql, hat, ht, hy⟩ := hi i hlt
    rw [Tryz.cells62] at hql hat
    have hby := bulk_mem (List.mem_of_getElem? hy)
    obtain ⟨_, zs, -, hzk, hf⟩ := fields_of Tryz.shape62 ht
    obtain ⟨n0, y0, h0, -⟩ := hf 0 9 0 rfl
    obtain ⟨n1, y1, h1, g1⟩ := hf 1 37 1 rfl
    obtain ⟨n2, y2, h2, -⟩ := hf 2 3 2 rfl
    obtain ⟨n3, y3, h3, g3⟩ := hf 3 41 3 rfl
    have hy1 := bulk_mem (List.mem_of_getElem? g1)
    have hy3 := bulk_mem (List.mem_of_getElem? g3)
    match q, hql with
    | [q0, q1, q2, q3, q4, q5, q6, q7, q8], _ =>
      simp only [Tryz.cells9, Tryz.cells60, Tryz.cells3, Tryz.cells43, List.drop_succ_cons, List.drop_zero, List.take_succ_cons, List.take_zero] at h0 h1 h2 h3
      obtain ⟨s, e0, _, hs⟩ := DataW.trod_string Tryz.u9 h0
      obtain ⟨r, e2, _, _⟩ := DataW.trod_int Tryz.u3 h2
      cases e0; cases e2
      obtain ⟨ps, hps, hpl⟩ := open_prms h1
      obtain ⟨t, xa, xc, ht0, hr, hu⟩ := open_term _ n3 _ y3 (Nat.le_refl _) h3
      have c0 := hat 0 (by omega)
      have c1 := hat 1 (by omega)
      have c2 := hat 2 (by omega)
      have c3 := hat 3 (by omega)
      have c4 := hat 4 (by omega)
      have c5 := hat 5 (by omega)
      have c6 := hat 6 (by omega)
      have c7 := hat 7 (by omega)
      have c8 := hat 8 (by omega)
      rw [ht0] at c3 c4 c5 c6 c7 c8
      simp only [← Nat.add_assoc, Nat.add_zero, List.getElem?_cons_zero, List.getElem?_cons_succ] at c0 c1 c2 c3 c4 c5 c6 c7 c8
      exact ⟨⟨s, ps, r, t⟩, ⟨b, o, _, xa, xc, _, rfl, cell_lt c0, c0, c1, c2, ⟨c3, c4, c5, c6, c7, c8⟩, hs, hps, hr⟩, by dsimp only; omega, by dsimp only; omega⟩
  obtain ⟨l, hll, hp⟩ := list_of len hex
  subst hll
  have := bulk_len bs
  refine ⟨l, ⟨A, cap, rfl, hl, hm, fun i f hf => (hp i f hf).1⟩, by omega, fun f hf => ?_⟩
  obtain ⟨i, hi'⟩ := List.mem_iff_getElem?.1 hf
  exact (hp i f hi').2
set_option maxRecDepth 10000 in
theorem open_prog {fuel : Nat} {cs : List Value} {x : DataW H × List MemPlace} (h : DataW.trod enc Tryz.prog w base spare held fuel 25 cs = some x) : ∃ (P : Pg) (vd vf : Value), cs = [vd, vf] ∧ RDecls w vd P.decls ∧ RFns w vf P.funs ∧ BD (Rows.uptoBulk x.1) P.decls ∧ BF (Rows.uptoBulk x.1) P.funs := by
  obtain ⟨hlen, bs, hbl, hbk, hf⟩ := fields_of Tryz.shape25 h
  rw [Tryz.cells25] at hlen
  obtain ⟨n0, y0, h0, g0⟩ := hf 0 22 0 rfl
  obtain ⟨n1, y1, h1, g1⟩ := hf 1 23 1 rfl
  have hy0 := bulk_mem (List.mem_of_getElem? g0)
  have hy1 := bulk_mem (List.mem_of_getElem? g1)
  match cs, hlen with
  | [c0, c1], _ =>
    simp only [Tryz.cells22, Tryz.cells23, List.drop_succ_cons, List.drop_zero, List.take_succ_cons, List.take_zero] at h0 h1
    obtain ⟨d, hd, bd⟩ := open_decls h0
    obtain ⟨f, hf, bf⟩ := open_funs h1
    exact ⟨⟨d, f⟩, c0, c1, rfl, hd, hf, bd.mono (by omega), bf.mono (by omega)⟩
end
end Go.Proofs.YtogmjgccopmplaaGreat

/- ref.go: left, Fits. -/
namespace Go.Proofs.YtogmjgccopmplaaGreat
open Go.RowKit

set_option maxHeartbeats 2000000 in
set_option maxRecDepth 100000 in
theorem left_any : ∀ (k : Nat) (t : Tm) (va vc : Value) (n : Int) (w : World), RT w k t va vc → -1000000000000 ≤ n → n ≤ 1000000000000 →
    Calls Tryz.prog 38 #[tV t va vc, .int .i64 n] w fun e w' => ∃ r : Int, e = .returned (.int .i64 r) ∧ 0 ≤ r ∧ r ≤ 1000000000000 ∧ Ext w w' := by
  intro k
  induction k with
  | zero => intro t va vc n w ht; exact ht.elim
  | succ k ih =>
    intro t va vc n w ht hn0 hn1
    have HT := Lib.hid ht; have HIH := Lib.hid ih
    obtain ⟨_, ⟨Aa, ca, rfl, hca, hma⟩, ⟨Bb, cb, rfl, hcb, hmb⟩⟩ := ht.form
    clear ht ih
    unfold maxLen at hma hmb
    have HE := Lib.hid (Ext.al w (.cells #[.int .i64 t.op, .int .i64 t.n, .string t.nm, .int .i64 t.ty, .slice Aa t.args.length ca, .slice Bb t.cls.length cb] 41))
    have HB := Lib.hid (heapNew w (.cells #[.int .i64 t.op, .int .i64 t.n, .string t.nm, .int .i64 t.ty, .slice Aa t.args.length ca, .slice Bb t.cls.length cb] 41))
    go_enter Tryz.func38, Tryz.ntmps38
    go_wp2
    generalize w.alloc _ = w1 at *
    go_loopw [1, 5] (fun s i wr => ∃ (j : Nat) (m : Int), j ≤ t.args.length ∧ i = .int .i64 j ∧ s = .int .i64 m ∧ -1000000000001 ≤ m ∧ m ≤ 1000000000000 ∧ Ext w1 wr) (fun _ i _ => t.args.length - (intOf i).toNat)
    case atStart => exact ⟨0, n - 1, Nat.zero_le _, rfl, by go_num, by omega, by omega, Ext.rf _⟩
    case round =>
      obtain ⟨j, m, hj, rfl, rfl, hm0, hm1, hb⟩ := hrel
      have HX := Lib.hid hb
      have b0 := (hb.block _ (heap_lt HB.out)).trans HB.out
      have HBB := Lib.hid b0
      have c4 := cellAt b0 4
      have c5 := cellAt b0 5
      clear hb b0
      by_cases hlt : j < t.args.length
      · obtain ⟨b, o, xa, xc, rfl, hbl, yc, yt⟩ := HT.out.arg hlt
        have yc := yc.below (HE.out.tr HX.out)
        have c30 := yc.c0
        have c31 := yc.c1
        have c32 := yc.c2
        have c33 := yc.c3
        have c34 := yc.c4
        have c35 := yc.c5
        have HK := Lib.hid (yt.below (HE.out.tr HX.out))
        generalize t.args[j] = x at *
        clear yc yt
        by_cases hpos : 0 < m
        · go_wp2_with (go_at_call 38; (with_reducible refine (HIH.out x _ _ m _ HK.out (by omega) (by omega)).mono ?_); rintro e w5 ⟨r, rfl, hr0, hr1, hb5⟩)
          exact ⟨⟨j + 1, r, by omega, by go_num, rfl, by omega, by omega, HX.out.tr hb5⟩, by simp [intOf]; omega⟩
        · go_wp2
          clear HK c30 c31 c32 c33 c34 c35
          go_loopw [1, 6] (fun s i wq => ∃ (j2 : Nat) (m2 : Int), j2 ≤ t.cls.length ∧ i = .int .i64 j2 ∧ s = .int .i64 m2 ∧ -1000000000001 ≤ m2 ∧ m2 ≤ 1000000000000 ∧ Ext wr wq) (fun _ i _ => t.cls.length - (intOf i).toNat)
          case atStart => exact ⟨0, m, Nat.zero_le _, rfl, rfl, by omega, by omega, Ext.rf _⟩
          case round =>
            obtain ⟨j2, m2, hj2, rfl, rfl, hm20, hm21, hb2⟩ := hrel
            have HX2 := Lib.hid (HX.out.tr hb2)
            have HXE := Lib.hid hb2
            have b2 := (hb2.block _ (heap_lt HBB.out)).trans HBB.out
            clear c4 c5
            have c4 := cellAt b2 4
            have c5 := cellAt b2 5
            clear hb2 b2
            by_cases hlt2 : j2 < t.cls.length
            · obtain ⟨b', o', vn', xa', xc', rfl, hbl', yn', ys', yc', yt'⟩ := HT.out.clause hlt2
              have yc' := yc'.below (HE.out.tr HX2.out)
              have d0 := yc'.c0
              have d1 := yc'.c1
              have d2 := yc'.c2
              have d3 := yc'.c3
              have d4 := yc'.c4
              have d5 := yc'.c5
              have HK2 := Lib.hid (yt'.below (HE.out.tr HX2.out))
              generalize t.cls[j2] = cl at *
              obtain ⟨ns, y⟩ := cl
              dsimp only at *
              clear yc' yt' yn' ys'
              by_cases hpos2 : 0 < m2
              · go_wp2_with (go_at_call 38; (with_reducible refine (HIH.out y _ _ m2 _ HK2.out (by omega) (by omega)).mono ?_); rintro e w6 ⟨r2, rfl, hr20, hr21, hb6⟩)
                exact ⟨⟨j2 + 1, r2, by omega, by go_num, rfl, by omega, by omega, HXE.out.tr hb6⟩, by simp [intOf]; omega⟩
              · go_wp2
                go_ret
                exact ⟨_, rfl, by omega, by omega, HE.out.tr HX2.out⟩
            · go_wp2
              go_ret
              exact ⟨_, rfl, by omega, by omega, HE.out.tr HX2.out⟩
      · go_wp2
        go_loopw [1, 6] (fun s i wq => ∃ (j2 : Nat) (m2 : Int), j2 ≤ t.cls.length ∧ i = .int .i64 j2 ∧ s = .int .i64 m2 ∧ -1000000000001 ≤ m2 ∧ m2 ≤ 1000000000000 ∧ Ext wr wq) (fun _ i _ => t.cls.length - (intOf i).toNat)
        case atStart => exact ⟨0, m, Nat.zero_le _, rfl, rfl, by omega, by omega, Ext.rf _⟩
        case round =>
          obtain ⟨j2, m2, hj2, rfl, rfl, hm20, hm21, hb2⟩ := hrel
          have HX2 := Lib.hid (HX.out.tr hb2)
          have HXE := Lib.hid hb2
          have b2 := (hb2.block _ (heap_lt HBB.out)).trans HBB.out
          clear c4 c5
          have c4 := cellAt b2 4
          have c5 := cellAt b2 5
          clear hb2 b2
          by_cases hlt2 : j2 < t.cls.length
          · obtain ⟨b', o', vn', xa', xc', rfl, hbl', yn', ys', yc', yt'⟩ := HT.out.clause hlt2
            have yc' := yc'.below (HE.out.tr HX2.out)
            have d0 := yc'.c0
            have d1 := yc'.c1
            have d2 := yc'.c2
            have d3 := yc'.c3
            have d4 := yc'.c4
            have d5 := yc'.c5
            have HK2 := Lib.hid (yt'.below (HE.out.tr HX2.out))
            generalize t.cls[j2] = cl at *
            obtain ⟨ns, y⟩ := cl
            dsimp only at *
            clear yc' yt' yn' ys'
            by_cases hpos2 : 0 < m2
            · go_wp2_with (go_at_call 38; (with_reducible refine (HIH.out y _ _ m2 _ HK2.out (by omega) (by omega)).mono ?_); rintro e w6 ⟨r2, rfl, hr20, hr21, hb6⟩)
              exact ⟨⟨j2 + 1, r2, by omega, by go_num, rfl, by omega, by omega, HXE.out.tr hb6⟩, by simp [intOf]; omega⟩
            · go_wp2
              go_ret
              exact ⟨_, rfl, by omega, by omega, HE.out.tr HX2.out⟩
          · go_wp2
            go_ret
            exact ⟨_, rfl, by omega, by omega, HE.out.tr HX2.out⟩

set_option maxHeartbeats 1000000 in
set_option maxRecDepth 100000 in
theorem Fits_any (k : Nat) (t : Tm) (va vc : Value) (n : Int) (w : World) (ht : RT w k t va vc) (hn0 : 0 ≤ n) (hn1 : n ≤ 1000000000) :
    Calls Tryz.prog 14 #[tV t va vc, .int .i64 n] w fun e w' => ∃ q : Bool, e = .returned (.bool q) ∧ Ext w w' := by
  have HT := Lib.hid ht
  obtain ⟨_, ⟨Aa, ca, rfl, hca, hma⟩, ⟨Bb, cb, rfl, hcb, hmb⟩⟩ := ht.form
  clear ht
  have HE := Lib.hid (Ext.al w (.cells #[.int .i64 t.op, .int .i64 t.n, .string t.nm, .int .i64 t.ty, .slice Aa t.args.length ca, .slice Bb t.cls.length cb] 41))
  have HB := Lib.hid (heapNew w (.cells #[.int .i64 t.op, .int .i64 t.n, .string t.nm, .int .i64 t.ty, .slice Aa t.args.length ca, .slice Bb t.cls.length cb] 41))
  go_enter Tryz.func14, Tryz.ntmps14
  go_wp2_with fail
  generalize w.alloc _ = w1 at *
  (with_reducible refine (left_any k t _ _ (n + 1) _ (HT.out.below HE.out) (by omega) (by omega)).mono ?_)
  rintro e w2 ⟨r, rfl, h0, h1, hb⟩
  have HX := Lib.hid (HE.out.tr hb)
  clear hb
  go_wp2
  go_ret
  exact ⟨_, rfl, HX.out⟩
end Go.Proofs.YtogmjgccopmplaaGreat

/- ref.go: Few. -/
namespace Go.Proofs.YtogmjgccopmplaaGreat
open Go.RowKit

set_option maxHeartbeats 2000000 in
set_option maxRecDepth 100000 in
theorem Few_any (P : Pg) (vd vf : Value) (n : Int) (w : World) (hd : RDecls w vd P.decls) (hf : RFns w vf P.funs) (hn0 : 0 ≤ n) (hn1 : n ≤ 1000000000) :
    Calls Tryz.prog 7 #[pV vd vf, .int .i64 n] w fun e w' => ∃ q : Bool, e = .returned (.bool q) ∧ Ext w w' := by
  have HF := Lib.hid hf
  obtain ⟨Ad, cd, rfl, hcd, hmd⟩ := hd.form
  obtain ⟨Af, cf, rfl, hcf, hmf⟩ := hf.form
  clear hd hf
  unfold maxLen at hmf hmd
  have HE := Lib.hid (Ext.al w (.cells #[.slice Ad P.decls.length cd, .slice Af P.funs.length cf] 25))
  have HB := Lib.hid (heapNew w (.cells #[.slice Ad P.decls.length cd, .slice Af P.funs.length cf] 25))
  have c0 := cellAt HB.out 0
  have c1 := cellAt HB.out 1
  go_enter Tryz.func7, Tryz.ntmps7
  by_cases hd : (40 : Int) < P.decls.length
  · go_wp2
    go_ret
    first | exact ⟨_, rfl, HE.out⟩ | exact ⟨.inl rfl, HE.out⟩ | exact ⟨.inr rfl, HE.out⟩
  by_cases hf : (40 : Int) < P.funs.length
  · go_wp2
    go_ret
    first | exact ⟨_, rfl, HE.out⟩ | exact ⟨.inl rfl, HE.out⟩ | exact ⟨.inr rfl, HE.out⟩
  go_wp2
  generalize w.alloc _ = w1 at *
  clear c0 c1
  go_loopw [20] (fun i wr => ∃ j : Nat, j ≤ P.funs.length ∧ i = .int .i64 j ∧ Ext w1 wr) (fun i _ => P.funs.length - (intOf i).toNat)
  case atStart => exact ⟨0, Nat.zero_le _, rfl, Ext.rf _⟩
  case round =>
    obtain ⟨j, hj, rfl, hb⟩ := hrel
    have HX := Lib.hid hb
    clear hb
    by_cases hlt : j < P.funs.length
    · obtain ⟨b, o, vp, xa, xc, kf, rfl, hbl, y0, y1, y2, yc, y3, y4, y5⟩ := HF.out.at_ hlt
      have hX := HE.out.tr HX.out
      have y0 := hX.keep y0
      have y1 := hX.keep y1
      have y2 := hX.keep y2
      have yc := yc.below hX
      obtain ⟨Ap, cp, rfl, -, -⟩ := y4.form
      obtain ⟨_, ⟨Aa, ca, rfl, -, -⟩, ⟨Bb, cb, rfl, -, -⟩⟩ := y5.form
      have HK := Lib.hid (y5.below hX)
      have c30 := yc.c0
      have c31 := yc.c1
      have c32 := yc.c2
      have c33 := yc.c3
      have c34 := yc.c4
      have c35 := yc.c5
      generalize P.funs[j] = f at *
      clear y3 y4 y5 yc hX
      have HE8 := Lib.hid (Ext.al wr (.cells #[.string f.nm, .slice Ap f.ps.length cp, .int .i64 f.res, .int .i64 f.body.op, .int .i64 f.body.n, .string f.body.nm, .int .i64 f.body.ty, .slice Aa f.body.args.length ca, .slice Bb f.body.cls.length cb] 64))
      go_wp2_with fail
      (with_reducible refine (Fits_any _ _ _ _ _ _ (HK.out.below HE8.out) hn0 hn1).mono ?_)
      rintro e w5 ⟨q, rfl, hb⟩
      have HX5 := Lib.hid ((HX.out.tr HE8.out).tr hb)
      clear hb c30 c31 c32 c33 c34 c35 y0 y1 y2
      cases q
      · go_wp2
        go_ret
        first | exact ⟨_, rfl, HE.out.tr HX5.out⟩ | exact ⟨.inl rfl, HE.out.tr HX5.out⟩ | exact ⟨.inr rfl, HE.out.tr HX5.out⟩
      · go_wp2
        exact ⟨⟨j + 1, by omega, by go_num, HX5.out⟩, by simp [intOf]; omega⟩
    · go_wp2
      go_ret
      first | exact ⟨_, rfl, HE.out.tr HX.out⟩ | exact ⟨.inl rfl, HE.out.tr HX.out⟩ | exact ⟨.inr rfl, HE.out.tr HX.out⟩
end Go.Proofs.YtogmjgccopmplaaGreat
