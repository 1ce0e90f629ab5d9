import Derived.Test.YtoopngnmdgcklaaSmallR
import Derived.Test.YtoopngnmdgcklaaIs
import Derived.Test.YtoopngnmdgcklaaPure5
import Derived.Deep.RegionLaw
import Derived.Deep.RegionHeld3
import Derived.Deep.LoopGhost
import Derived.Maps.AppendAt
namespace Go.Proofs.Ytoopngnmdgcklaa
open Go.RowKit

def clo (c : Con) : Value := .func (.func 55) #[] #[.pointer (some ⟨c.m, 0, none⟩), .pointer (some ⟨c.p, 0, none⟩), .pointer (some ⟨c.q, 0, none⟩)]

structure SI (w : World) (B bs gF gW : Nat) (F : List Bool) (W : List (List Con)) (Q : List Con) (cs : List Con) (mis : Nat → Nat) (wv : List Value) (qv : Value) : Prop where
  hs : w.heap[bs]? = some (.cells #[.slice (some ⟨gF, 0, none⟩) F.length F.length, .slice (some ⟨gW, 0, none⟩) F.length F.length, qv] 87 (0, 0))
  hF : BBlk w gF F
  hW : w.heap[gW]? = some (.cells wv.toArray 85 (0, 0))
  wl : wv.length = F.length
  Wl : W.length = F.length
  own : ∀ (j : Nat) v L, wv[j]? = some v → W[j]? = some L → w.ownsRow B 1 1 v L.length (L.map clo)
  qown : w.ownsRow B 1 1 qv Q.length (Q.map clo)
  dj : ∀ (i j : Nat) vi vj g, wv[i]? = some vi → wv[j]? = some vj → vi.ownBlock = some g → vj.ownBlock = some g → i = j
  dq : ∀ (i : Nat) v g, wv[i]? = some v → v.ownBlock = some g → qv.ownBlock ≠ some g
  boxes : ∀ c ∈ cs, w.heap[c.m]? = some (.cells #[.int .i64 (mis c.m)] 3 (0, 0)) ∧ w.heap[c.p]? = some (.cells #[.pointer (some ⟨bs, 0, none⟩)] 91 (0, 0)) ∧ w.heap[c.q]? = some (.cells #[.int .i64 c.i] 3 (0, 0))
  lows : B ≤ bs ∧ B ≤ gF ∧ B ≤ gW
  mq : ∀ c ∈ cs, ∀ c' ∈ cs, c.m ≠ c'.q
  mB : ∀ c ∈ cs, B ≤ c.m

theorem heap_lt {w : World} {g : Nat} {o : Obj} (h : w.heap[g]? = some o) : g < w.heap.size := (Array.getElem?_eq_some_iff.1 h).1
theorem cells_ne {w : World} {g g' : Nat} {c c' : Array Value} {e e' : Nat} {z z' : Nat × Nat} (h : w.heap[g]? = some (.cells c e z)) (h' : w.heap[g']? = some (.cells c' e' z')) (hne : e ≠ e') : g ≠ g' := by
  rintro rfl
  rw [h] at h'
  injection h' with h'
  injection h' with _ ht
  exact hne ht
theorem own_block {w : World} {B n g : Nat} {v : Value} {xs : List Value} (h : w.ownsRow B 1 1 v n xs) (hg : v.ownBlock = some g) : ∃ cur, w.heap[g]? = some (.cells cur 1 (0, 0)) := by
  rcases h.2 with ⟨rfl, _⟩ | ⟨g', cap, cur, rfl, _, hh, _⟩
  · simp [Value.ownBlock] at hg
  · have : g' = g := by simpa [Value.ownBlock] using hg
    subst this
    exact ⟨cur, hh⟩
theorem own_at {w w' : World} {B n : Nat} {v : Value} {xs : List Value} (h : w.ownsRow B 1 1 v n xs) (hk : ∀ g, v.ownBlock = some g → w'.heap[g]? = w.heap[g]?) : w'.ownsRow B 1 1 v n xs := by
  obtain ⟨h1, h2⟩ := h
  refine ⟨h1, ?_⟩
  rcases h2 with h2 | ⟨g, cap, cur, rfl, e2, e3, e4⟩
  · exact .inl h2
  · exact .inr ⟨g, cap, cur, rfl, e2, (hk g rfl).trans e3, e4⟩
theorem Try.info1 : (Try.prog.info? 1).map (fun i => (i.zero, i.size, i.bytes)) = some (some .nilFunc, 1, 8) := by kernel_rfl
theorem step_app {P : Program} {w : World} {ops : Array Oper} {o : Oper} {a : Act} {K : Act → World → Prop} {Q : Exit → Act → World → Prop} {E : Prop} (hgd : o.guard = none)
    (h : o.wp P a w K Q) : if Region.wanted o (yielded ops a.tmps) = true then Oper.wp P o a w K Q else E := by
  rw [if_pos (by simp [Region.wanted, hgd])]; exact h

/-- Where the cells to be appended come from. -/
def Src (w : World) (A : Option Addr) (m c : Nat) (news : List Value) : Prop :=
  (A = none ∧ m = 0 ∧ c = 0 ∧ news = []) ∨ ∃ ad, A = some ad ∧ news.length = m ∧ ∀ (j : Nat) u, news[j]? = some u → w.cell? (ad.add j) = some u
theorem Src.of_own {w : World} {B : Nat} {A : Option Addr} {m c : Nat} {news : List Value} (h : w.ownsRow B 1 1 (.slice A m c) m news) : Src w A m c news := by
  have hl : news.length = m := by simpa using h.1
  rcases h.2 with ⟨h1, h2⟩ | ⟨g, cap, cur, h1, _⟩
  · cases h1
    exact .inl ⟨rfl, rfl, rfl, List.eq_nil_of_length_eq_zero hl⟩
  · cases h1
    refine .inr ⟨_, rfl, hl, fun j u hu => ?_⟩
    exact World.ownsRow.cells h rfl j u hu
theorem app_clo {w : World} {o : Oper} {a : Act} {K : Act → World → Prop} {Q : Exit → Act → World → Prop} (s x : Operand)
    (ho : o.op = .call { callee := .builtin .append, args := #[s, x], argTypes := #[85, 85] })
    (B : Nat) (v : Value) (n : Nat) (xs : List Value) (hs : a.eval s = v) (hown : w.ownsRow B 1 1 v n xs)
    (A : Option Addr) (m c : Nat) (news : List Value) (hx : a.eval x = .slice A m c) (hsrc : Src w A m c news) (h1 : ∀ u ∈ news, u.oneCell' = true)
    (hnm : n + m ≤ 100000) (hB : B ≤ w.heap.size)
    (h : ∀ v' w', w'.ownsRow B 1 1 v' (n + m) (xs ++ news) → w.grownBy w' v.ownBlock → (v'.ownBlock = v.ownBlock ∨ v'.ownBlock = some w.heap.size) → K (a.put o.dst v') w') : o.wp Try.prog a w K Q := by
  obtain ⟨i0, hi1, hz0, hz1, hz2⟩ := info_parts Try.info1
  rcases hsrc with ⟨rfl, rfl, rfl, rfl⟩ | ⟨ad, rfl, hl, hc⟩
  · have hr := run_append_owned_none (P := Try.prog) w B 85 o.type 1 i0 1 Try.underlying85 hi1 v n xs hown
    have hk := h v w (by simpa using hown) (World.grownBy.refl w _) (.inl rfl)
    unfold Oper.wp execOp
    simp only [ho, resolve, invoke, builtin, Sem.run_bind, Sem.run_pure, Result.andThen_ok, List.map_toArray, List.map_cons, List.map_nil, hs, hx, hr]
    exact hk
  · obtain ⟨v', w', hr, h2, h3, _, h5⟩ := run_append_own_at (P := Try.prog) w B 85 o.type 1 i0 .nilFunc 1 8 Try.underlying85 hi1 hz0 hz1 hz2 rfl (by decide) v n xs hown ad m c news (by simpa using hl) hc h1 (by unfold maxLen; omega) (by omega) hB
    unfold Oper.wp execOp
    simp only [ho, resolve, invoke, builtin, Sem.run_bind, Sem.run_pure, Result.andThen_ok, List.map_toArray, List.map_cons, List.map_nil, hs, hx, hr]
    exact h v' w' h2 h3 h5

theorem SI.setF {w : World} {B bs gF gW : Nat} {F : List Bool} {W : List (List Con)} {Q cs : List Con} {mis : Nat → Nat} {wv : List Value} {qv : Value} (h : SI w B bs gF gW F W Q cs mis wv qv) (i : Nat) (b : Bool) :
    SI (w.setCell ⟨gF, i, none⟩ (.bool b)) B bs gF gW (F.set i b) W Q cs mis wv qv := by
  have hk : ∀ k, k ≠ gF → (w.setCell ⟨gF, i, none⟩ (.bool b)).heap[k]? = w.heap[k]? := fun k hk => heap_set_other w _ hk
  have hg : ∀ {n : Nat} {v : Value} {xs : List Value}, w.ownsRow B 1 1 v n xs → (w.setCell ⟨gF, i, none⟩ (.bool b)).ownsRow B 1 1 v n xs := fun hv => own_at hv fun g e => by
    obtain ⟨cur, hc⟩ := own_block hv e
    exact hk g (cells_ne hc h.hF (by decide))
  refine ⟨?_, h.hF.set i b, ?_, by simpa using h.wl, by simpa using h.Wl, fun j v L e1 e2 => hg (h.own j v L e1 e2), hg h.qown, h.dj, h.dq, fun c hc => ?_, h.lows, h.mq, h.mB⟩
  · rw [hk bs (cells_ne h.hs h.hF (by decide)), List.length_set]; exact h.hs
  · rw [hk gW (cells_ne h.hW h.hF (by decide))]; exact h.hW
  · obtain ⟨a1, a2, a3⟩ := h.boxes c hc
    exact ⟨(hk _ (cells_ne a1 h.hF (by decide))).trans a1, (hk _ (cells_ne a2 h.hF (by decide))).trans a2, (hk _ (cells_ne a3 h.hF (by decide))).trans a3⟩


/-- A store into the search's field 'work' behind an append to it. -/
theorem SI.work {w w1 : World} {B bs gF gW : Nat} {F : List Bool} {W : List (List Con)} {Q Q' cs : List Con} {mis : Nat → Nat} {wv : List Value} {qv v' : Value} (h : SI w B bs gF gW F W Q cs mis wv qv)
    (hg : w.grownBy w1 qv.ownBlock) (ho : w1.ownsRow B 1 1 v' Q'.length (Q'.map clo)) (hat : v'.ownBlock = qv.ownBlock ∨ v'.ownBlock = some w.heap.size) :
    SI (w1.setCell ⟨bs, 2, none⟩ v') B bs gF gW F W Q' cs mis wv v' := by
  have hne : ∀ {k : Nat} {c : Array Value} {e : Nat}, w.heap[k]? = some (.cells c e (0, 0)) → e ≠ 1 → w1.heap[k]? = some (.cells c e (0, 0)) := fun {k c e} hk he => by
    rw [hg.block k (heap_lt hk) (fun e' => ?_)]
    · exact hk
    · obtain ⟨cur, hc⟩ := own_block h.qown e'.symm
      exact cells_ne hk hc he rfl
  have hbs := hne h.hs (by decide)
  have hk : ∀ k, k ≠ bs → (w1.setCell ⟨bs, 2, none⟩ v').heap[k]? = w1.heap[k]? := fun k hk => heap_set_other w1 _ hk
  have hnb : ∀ {k : Nat} {c : Array Value} {e : Nat}, w.heap[k]? = some (.cells c e (0, 0)) → e ≠ 1 → e ≠ 87 → (w1.setCell ⟨bs, 2, none⟩ v').heap[k]? = some (.cells c e (0, 0)) := fun {k c e} hk' he he' =>
    (hk k (cells_ne hk' h.hs he')).trans (hne hk' he)
  refine ⟨?_, hnb h.hF (by decide) (by decide), hnb h.hW (by decide) (by decide), h.wl, h.Wl, fun j v L e1 e2 => ?_, ?_, h.dj, fun i v g e1 e2 e3 => ?_, fun c hc => ?_, h.lows, h.mq, h.mB⟩
  · simp [World.setCell, Array.getElem?_modify, hbs]
  · have hv := h.own j v L e1 e2
    refine own_at hv fun g e => ?_
    obtain ⟨cur, hc⟩ := own_block hv e
    rw [hk g (cells_ne hc h.hs (by decide))]
    exact hg.block g (heap_lt hc) (fun e' => h.dq j v g e1 e e'.symm)
  · refine own_at ho fun g e => ?_
    obtain ⟨cur, hc⟩ := own_block ho e
    exact hk g (cells_ne hc hbs (by decide))
  · have hv := h.own i v _ e1 (List.getElem?_eq_getElem (by have := h.Wl; have := h.wl; have := (List.getElem?_eq_some_iff.1 e1).1; omega))
    rcases hat with ha | ha
    · exact h.dq i v g e1 e2 (ha.symm.trans e3)
    · obtain ⟨cur, hc⟩ := own_block hv e2
      rw [ha] at e3
      cases e3
      have := heap_lt hc
      omega
  · obtain ⟨a1, a2, a3⟩ := h.boxes c hc
    exact ⟨hnb a1 (by decide) (by decide), hnb a2 (by decide) (by decide), hnb a3 (by decide) (by decide)⟩
theorem SI.rowB {w : World} {B bs gF gW : Nat} {F : List Bool} {W : List (List Con)} {Q cs : List Con} {mis : Nat → Nat} {wv : List Value} {qv : Value} (h : SI w B bs gF gW F W Q cs mis wv qv) : ∀ k, qv.ownBlock = some k → B ≤ k := fun k e => (h.qown.lt k e).1

/-- What 'find' leaves. -/
structure FPost (B bs gF gW : Nat) (F : List Bool) (W : List (List Con)) (Q cs : List Con) (mis : Nat → Nat) (wv : List Value) (w : World) (e : Ending) (w' : World) : Prop where
  ret : e = .returned (.tuple #[])
  si : ∃ qv, SI w' B bs gF gW F W Q cs mis wv qv
  below : Below B w w'

theorem find_new (B bs gF gW : Nat) (F : List Bool) (W : List (List Con)) (Q cs : List Con) (mis : Nat → Nat) (wv : List Value) (qv : Value) (i : Nat) (w : World) (h : SI w B bs gF gW F W Q cs mis wv qv) (hi : i < F.length) (_ : F.length ≤ 8) (hf : F[i] = false) (hQ : Q.length ≤ 1000) (hWs : ∀ L ∈ W, L.length ≤ 1000) :
    Calls Try.prog 56 #[.pointer (some ⟨bs, 0, none⟩), .int .i64 i] w (FPost B bs gF gW (F.set i true) W (Q ++ W.getD i []) cs mis wv w) := by
  have hs := h.hs
  have c0 := cellAt hs 0
  have d0 := h.hF.cell hi
  have dz := h.hF.frozen i
  have HS := Lib.hid (h.setF i true)
  have HBW : Hid (Below B w (w.setCell ⟨gF, i, none⟩ (.bool true))) := (Below.refl B w).setCell (p := ⟨gF, i, none⟩) h.lows.2.1 _
  have hs1 := HS.out.hs
  rw [List.length_set] at hs1
  have c1 : (w.setCell ⟨gF, i, none⟩ (.bool true)).cell? ⟨bs, 1, none⟩ = some (.slice (some ⟨gW, 0, none⟩) F.length F.length) := cellAt hs1 1
  have c2 : (w.setCell ⟨gF, i, none⟩ (.bool true)).cell? ⟨bs, 2, none⟩ = some qv := cellAt hs1 2
  have HBS := Lib.hid hs1
  clear hs hs1
  rw [hf] at d0
  have hwl := h.wl
  have hWl := h.Wl
  have hiw : i < wv.length := by omega
  have hiW : i < W.length := by omega
  have e0 : (w.setCell ⟨gF, i, none⟩ (.bool true)).cell? ⟨gW, i, none⟩ = some wv[i] := by
    rw [cellAt HS.out.hW i]; simp
  have hown := HS.out.own i wv[i] W[i] (List.getElem?_eq_getElem hiw) (List.getElem?_eq_getElem hiW)
  have hWi : (W[i]).length ≤ 1000 := hWs _ (List.getElem_mem hiW)
  have HWG : Hid (W.getD i [] = W[i]) := by show _ = _; simp [List.getD_eq_getElem?_getD, hiW]
  generalize wv[i] = vi at *
  generalize W[i] = Wi at *
  have HO := Lib.hid hown; clear hown
  have HQ := Lib.hid HS.out.qown
  obtain ⟨Aq, cq, rfl, hcq, hmq, -⟩ := own_form HQ.out
  obtain ⟨Ai, ci, rfl, hci, hmi, -⟩ := own_form HO.out
  have HSRC := Lib.hid (Src.of_own HO.out)
  clear h
  unfold maxLen at hmq hmi
  have H1C : Hid (∀ u ∈ Wi.map clo, u.oneCell' = true) := fun u hu => by
    obtain ⟨c, _, rfl⟩ := List.mem_map.1 hu
    rfl
  have hnm : Q.length + Wi.length ≤ 100000 := by omega
  have HBSne : Hid (∀ g, (Value.slice Aq Q.length cq).ownBlock = some g → bs ≠ g) := fun g e => by
    obtain ⟨cur, hc⟩ := own_block HQ.out e
    exact cells_ne HS.out.hs hc (by decide)
  go_enter Try.func56, Try.ntmps56
  go_wp2
  generalize w.setCell _ _ = w1 at *
  have HQd : Hid (w1.drew.ownsRow B 1 1 (.slice Aq Q.length cq) Q.length (Q.map clo)) := HQ.out
  have HSd : Hid (Src w1.drew Ai Wi.length ci (Wi.map clo)) := HSRC.out
  have hBd : B ≤ w1.drew.heap.size := by
    have := heap_lt HS.out.hs; have := HS.out.lows; simp; omega
  have HSD : Hid (SI w1.drew B bs gF gW (F.set i true) W Q cs mis wv (.slice Aq Q.length cq)) := ⟨HS.out.hs, HS.out.hF, HS.out.hW, HS.out.wl, HS.out.Wl, HS.out.own, HS.out.qown, HS.out.dj, HS.out.dq, HS.out.boxes, HS.out.lows, HS.out.mq, HS.out.mB⟩
  go_region_law ((refine step_app rfl (app_clo (.tmp 22) (.tmp 29) rfl B (.slice Aq Q.length cq) Q.length (Q.map clo) rfl HQd.out Ai Wi.length ci (Wi.map clo) rfl HSd.out H1C.out hnm hBd ?_)); (intro v' w2 hown2 hg2 hat2); (obtain ⟨A2, c2', rfl, -⟩ := own_form hown2); have hbs2 := (hg2.block bs (heap_lt HBS.out) (fun e => HBSne.out bs e.symm rfl)).trans HBS.out; have k2 := cellAt hbs2 2; have kz := Lib.frozen_of_heap hbs2 2; (have HO2 := Lib.hid hown2); (have HG2 := Lib.hid hg2); (have HAT := Lib.hid hat2); clear hown2 hg2 hbs2 hat2)
  all_goals
    go_wp2
    go_end0
    have hq2 : w2.ownsRow B 1 1 (.slice A2 (Q.length + Wi.length) c2') (Q ++ Wi).length ((Q ++ Wi).map clo) := by
      rw [List.length_append, List.map_append]; exact HO2.out
    refine ⟨rfl, ⟨.slice A2 (Q.length + Wi.length) c2', ?_⟩, ((HBW.out.drew).grown HG2.out hBd HSD.out.rowB).setCell (p := ⟨bs, 2, none⟩) HSD.out.lows.1 _⟩
    rw [HWG.out]
    exact HSD.out.work HG2.out hq2 HAT.out

theorem find_old (B bs gF gW : Nat) (F : List Bool) (W : List (List Con)) (Q cs : List Con) (mis : Nat → Nat) (wv : List Value) (qv : Value) (i : Nat) (w : World) (h : SI w B bs gF gW F W Q cs mis wv qv) (hi : i < F.length) (_ : F.length ≤ 8) (hf : F[i] = true) :
    Calls Try.prog 56 #[.pointer (some ⟨bs, 0, none⟩), .int .i64 i] w (FPost B bs gF gW F W Q cs mis wv w) := by
  have hs := h.hs
  have c0 := cellAt hs 0
  have d0 := h.hF.cell hi
  have HS := Lib.hid h
  rw [hf] at d0
  clear hs h
  go_enter Try.func56, Try.ntmps56
  go_wp2
  go_end0
  exact ⟨rfl, ⟨qv, HS.out⟩, Below.refl _ _⟩

theorem find_any (B bs gF gW : Nat) (F : List Bool) (W : List (List Con)) (Q cs : List Con) (mis : Nat → Nat) (wv : List Value) (qv : Value) (i : Nat) (w : World) (h : SI w B bs gF gW F W Q cs mis wv qv) (hi : i < F.length) (hn : F.length ≤ 8) (hQ : Q.length ≤ 1000) (hWs : ∀ L ∈ W, L.length ≤ 1000) :
    Calls Try.prog 56 #[.pointer (some ⟨bs, 0, none⟩), .int .i64 i] w (FPost B bs gF gW (fndF F i) W (fndQ F W Q i) cs mis wv w) := by
  have e : F.getD i false = F[i] := by simp [List.getD_eq_getElem?_getD, hi]
  cases hf : F[i]
  · have h1 : fndF F i = F.set i true := by unfold fndF; rw [e, hf]; rfl
    have h2 : fndQ F W Q i = Q ++ W.getD i [] := by unfold fndQ; rw [e, hf]; rfl
    rw [h1, h2]
    exact find_new B bs gF gW F W Q cs mis wv qv i w h hi hn hf hQ hWs
  · have h1 : fndF F i = F := by unfold fndF; rw [e, hf]; rfl
    have h2 : fndQ F W Q i = Q := by unfold fndQ; rw [e, hf]; rfl
    rw [h1, h2]
    exact find_old B bs gF gW F W Q cs mis wv qv i w h hi hn hf

theorem SI.setM {w : World} {B bs gF gW : Nat} {F : List Bool} {W : List (List Con)} {Q cs : List Con} {mis : Nat → Nat} {wv : List Value} {qv : Value} (h : SI w B bs gF gW F W Q cs mis wv qv) {c : Con} (hc : c ∈ cs) (k : Nat) :
    SI (w.setCell ⟨c.m, 0, none⟩ (.int .i64 k)) B bs gF gW F W Q cs (misS mis c.m k) wv qv := by
  obtain ⟨b1, b2, b3⟩ := h.boxes c hc
  have hk : ∀ x, x ≠ c.m → (w.setCell ⟨c.m, 0, none⟩ (.int .i64 k)).heap[x]? = w.heap[x]? := fun x hx => heap_set_other w _ hx
  have hn : ∀ {x : Nat} {a : Array Value} {e : Nat}, w.heap[x]? = some (.cells a e (0, 0)) → e ≠ 3 → (w.setCell ⟨c.m, 0, none⟩ (.int .i64 k)).heap[x]? = some (.cells a e (0, 0)) := fun {x a e} hx he => (hk x (cells_ne hx b1 he)).trans hx
  have ho : ∀ {n : Nat} {v : Value} {xs : List Value}, w.ownsRow B 1 1 v n xs → (w.setCell ⟨c.m, 0, none⟩ (.int .i64 k)).ownsRow B 1 1 v n xs := fun hv => own_at hv fun g e => by
    obtain ⟨cur, hcur⟩ := own_block hv e
    exact hk g (cells_ne hcur b1 (by decide))
  refine ⟨hn h.hs (by decide), hn h.hF (by decide), hn h.hW (by decide), h.wl, h.Wl, fun j v L e1 e2 => ho (h.own j v L e1 e2), ho h.qown, h.dj, h.dq, fun d hd => ?_, h.lows, h.mq, h.mB⟩
  obtain ⟨a1, a2, a3⟩ := h.boxes d hd
  refine ⟨?_, hn a2 (by decide), (hk _ (fun e => h.mq c hc d hd e.symm)).trans a3⟩
  by_cases e : d.m = c.m
  · rw [e]
    simp [World.setCell, Array.getElem?_modify, b1, misS]
  · rw [hk _ e, a1]
    simp [misS, e]

theorem told_any (B bs gF gW : Nat) (F : List Bool) (W : List (List Con)) (Q cs : List Con) (mis : Nat → Nat) (wv : List Value) (qv : Value) (c : Con) (w : World) (h : SI w B bs gF gW F W Q cs mis wv qv) (hc : c ∈ cs) (hi : c.i < F.length) (hn : F.length ≤ 8) (hQ : Q.length ≤ 1000) (hWs : ∀ L ∈ W, L.length ≤ 1000)
    (hm : 1 ≤ mis c.m) (hm2 : mis c.m ≤ 1000) :
    Calls Try.prog 55 #[.pointer (some ⟨c.m, 0, none⟩), .pointer (some ⟨c.p, 0, none⟩), .pointer (some ⟨c.q, 0, none⟩)] w
      (FPost B bs gF gW (if mis c.m = 1 then fndF F c.i else F) W (if mis c.m = 1 then fndQ F W Q c.i else Q) cs (misS mis c.m (mis c.m - 1)) wv w) := by
  obtain ⟨b1, b2, b3⟩ := h.boxes c hc
  have c0 := cellAt b1 0
  have cz := Lib.frozen_of_heap b1 0
  have HS := Lib.hid (h.setM hc (mis c.m - 1))
  have HBL : Hid (Below B w (w.setCell ⟨c.m, 0, none⟩ (.int .i64 (mis c.m - 1 : Nat)))) := (Below.refl B w).setCell (p := ⟨c.m, 0, none⟩) (h.mB c hc) _
  obtain ⟨a1, a2, a3⟩ := HS.out.boxes c hc
  have d0 := cellAt a1 0
  have d1 := cellAt a2 0
  have d2 := cellAt a3 0
  clear b1 b2 b3 a1 a2 a3 h
  have hd0 : (misS mis c.m (mis c.m - 1)) c.m = mis c.m - 1 := by simp [misS]
  rw [hd0] at d0
  clear hd0
  by_cases h1 : mis c.m = 1
  · rw [if_pos h1, if_pos h1]
    rw [h1] at c0 d0 d1 d2 HS HBL ⊢
    have e0 : ((1 - 1 : Nat) : Int) = 0 := rfl
    rw [e0] at d0 d1 d2 HS HBL
    have e1 : (1 - 1 : Nat) = 0 := rfl
    rw [e1] at HS ⊢
    have e2 : ((1 : Nat) : Int) = 1 := rfl
    rw [e2] at c0
    clear h1 hm hm2 e0 e1 e2
    go_enter Try.func55, Try.ntmps55
    go_wp2_with fail
    generalize w.setCell _ _ = w1 at *
    (with_reducible refine (find_any B bs gF gW F W Q cs _ wv qv c.i _ HS.out hi hn hQ hWs).mono ?_)
    rintro e w2 ⟨rfl, hsi, hb⟩
    go_wp2
    go_end0
    exact ⟨rfl, hsi, HBL.out.trans hb⟩
  · rw [if_neg h1, if_neg h1]
    obtain ⟨k, hk⟩ : ∃ k, mis c.m = k + 1 := ⟨mis c.m - 1, by omega⟩
    have HK := Lib.hid hk
    rw [hk] at c0
    have e1 : mis c.m - 1 = k := by omega
    have hk0 : ¬ k = 0 := by omega
    rw [e1] at d0 d1 d2 HS HBL ⊢
    have hkb : ((k : Int) == 0) = false := by simp; omega
    have hkl : k ≤ 1000 := by omega
    clear hk e1 h1 hm hm2
    go_enter Try.func55, Try.ntmps55
    go_wp2
    go_end0
    exact ⟨rfl, ⟨qv, HS.out⟩, HBL.out⟩
end Go.Proofs.Ytoopngnmdgcklaa
