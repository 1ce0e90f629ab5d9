/- ref06: Params. -/
import Derived.Test.YtkdhhcidpklgoaaGreatDoorQ24
import Derived.Laws.MakeOwn
namespace Go.Proofs.YtkdhhcidpklgoaaGreatDoor
open Go.RowKit Go.Shelf
attribute [local go_sem] Oper.semAt_some

/-- The variables of one kind. -/
def parV (q : Bool) : List Int → List Arg → List Int
  | v :: r, a :: l => if a.co = q then v :: parV q r l else parV q r l
  | _, _ => []
theorem parV_append (q : Bool) : ∀ (vs : List Int) (l : List Arg) (v : Int) (a : Arg), vs.length = l.length → parV q (vs ++ [v]) (l ++ [a]) = parV q vs l ++ (if a.co = q then [v] else [])
  | [], [], v, a, _ => by simp [parV]
  | x :: r, b :: l, v, a, h => by
    have := parV_append q r l v a (by simpa using h)
    simp only [List.cons_append, parV, this]
    split <;> simp
  | [], _ :: _, _, _, h => by simp at h
  | _ :: _, [], _, _, h => by simp at h
theorem parV_take (q : Bool) {vs : List Int} {l : List Arg} {k : Nat} (hv : k < vs.length) (hl : k < l.length) : parV q (vs.take (k + 1)) (l.take (k + 1)) = parV q (vs.take k) (l.take k) ++ (if (l[k]).co = q then [vs[k]] else []) := by
  rw [List.take_succ_eq_append_getElem hv, List.take_succ_eq_append_getElem hl]
  exact parV_append q _ _ _ _ (by simp; omega)
theorem parV_len (q : Bool) : ∀ (vs : List Int) (l : List Arg), (parV q vs l).length ≤ vs.length
  | [], _ => by simp [parV]
  | _ :: _, [] => by simp [parV]
  | v :: r, a :: l => by
    have := parV_len q r l
    simp only [parV]
    split <;> simp <;> omega
theorem parV_mem (q : Bool) : ∀ (vs : List Int) (l : List Arg) (x : Int), x ∈ parV q vs l → x ∈ vs
  | [], _, x, h => by simp [parV] at h
  | _ :: _, [], x, h => by simp [parV] at h
  | v :: r, a :: l, x, h => by
    simp only [parV] at h
    split at h
    · rcases List.mem_cons.1 h with rfl | h
      · exact List.mem_cons_self
      · exact List.mem_cons_of_mem _ (parV_mem q r l x h)
    · exact List.mem_cons_of_mem _ (parV_mem q r l x h)
/-- Two rows of the call's own, in two blocks. -/
structure Two (w : World) (base : Nat) (s q : Value) (xs ys : List Int) : Prop where
  a : w.ownsRow base 3 1 s xs.length (xs.map (Value.int .i64))
  b : w.ownsRow base 3 1 q ys.length (ys.map (Value.int .i64))
  ne : ∀ g, s.ownBlock = some g → q.ownBlock ≠ some g
theorem Two.ext {w w' : World} {base : Nat} {s q : Value} {xs ys : List Int} (h : Two w base s q xs ys) (hx : Ext w w') : Two w' base s q xs ys := ⟨own_below h.a hx, own_below h.b hx, h.ne⟩
theorem Two.swap {w : World} {base : Nat} {s q : Value} {xs ys : List Int} (h : Two w base s q xs ys) : Two w base q s ys xs := ⟨h.b, h.a, fun g h1 h2 => h.ne g h2 h1⟩
/-- The first row grows. -/
theorem Two.grow {w w' : World} {base : Nat} {s q s' : Value} {xs ys : List Int} {x : Int} (h : Two w base s q xs ys) (hown : w'.ownsRow base 3 1 s' (xs.length + 1) (xs.map (Value.int .i64) ++ [.int .i64 x])) (hgr : w.grownBy w' s.ownBlock)
    (ht : s'.ownBlock = s.ownBlock ∨ s'.ownBlock = some w.heap.size) : Two w' base s' q (xs ++ [x]) ys := by
  refine ⟨by rw [List.length_append, List.map_append]; exact hown, ?_, fun g h1 h2 => ?_⟩
  · rcases h.b with ⟨e1, e2⟩
    refine ⟨e1, e2.elim Or.inl (fun ⟨g, cap, cur, hv, hb, h3, r⟩ => Or.inr ⟨g, cap, cur, hv, hb, ?_, r⟩)⟩
    exact (hgr.block g (heap_lt h3) (fun e => h.ne g (by first | exact e | exact e.symm) (by rw [hv]; rfl))).trans h3
  · rcases ht with ht | ht
    · exact h.ne g (ht ▸ h1) h2
    · rw [ht] at h1
      obtain ⟨_, _, _, h4⟩ := own_shape h.b
      have := (h4 g h2).2
      have e := Option.some.inj h1
      omega
set_option maxHeartbeats 8000000 in
set_option maxRecDepth 100000 in
theorem params6_any (f : CF) (vp vv xa xb : Value) (w : World) (h : RArgs w vp f.ps) (hv : RInts w vv f.vars) (hl : f.vars.length = f.ps.length) (hs : f.ps.length ≤ 1048576) (hk : ∃ k, RNd w k f.body xa xb) :
    Calls Tryz.prog 27 #[fV f vp vv xa xb] w fun e w' => (∃ u z, e = .returned (.tuple #[u, z]) ∧ RInts w' u (parV false f.vars f.ps) ∧ RInts w' z (parV true f.vars f.ps)) ∧ Ext w w' := by
  have HP := Lib.hid h; have HV := Lib.hid hv; have HL := Lib.hid hl
  have hok : ∀ x ∈ f.vars, ok64 x := fun x hx => by
    obtain ⟨i, hi⟩ := List.mem_iff_getElem?.1 hx
    obtain ⟨A, c, -, -, -, h3⟩ := hv
    obtain ⟨b, o, -, -, -, h4⟩ := h3 i x hi
    exact h4
  have HOKV := Lib.hid hok
  obtain ⟨k, hk⟩ := hk
  obtain ⟨-, ⟨Ax, cx, rfl, -, -⟩, ⟨Bx, dx, rfl, -, -⟩⟩ := hk.form
  obtain ⟨Ap, cp, rfl, -, hmp⟩ := h.form
  obtain ⟨Av, cv, rfl, -, hmv⟩ := hv.form
  clear h hv hk hok hl
  have HE1 := Lib.hid (Ext.al w (.cells #[.string f.nm, .slice Ap f.ps.length cp, .slice Av f.vars.length cv, .int .i64 f.body.op, .int .i64 f.body.n, .int .i64 f.body.ty, .slice Ax f.body.args.length cx, .slice Bx f.body.brs.length dx] 53))
  have HB1 := Lib.hid (heapNew w (.cells #[.string f.nm, .slice Ap f.ps.length cp, .slice Av f.vars.length cv, .int .i64 f.body.op, .int .i64 f.body.n, .int .i64 f.body.ty, .slice Ax f.body.args.length cx, .slice Bx f.body.brs.length dx] 53))
  go_enter Tryz.func27, Tryz.ntmps27
  go_wp2
  generalize w.alloc _ = w1 at *
  go_loopw [2, 3, 9] (fun s q i wr => ∃ k : Nat, k ≤ f.ps.length ∧ i = .int .i64 k ∧ Two wr w1.heap.size s q (parV false (f.vars.take k) (f.ps.take k)) (parV true (f.vars.take k) (f.ps.take k)) ∧ Ext w1 wr) (fun _ _ i _ => f.ps.length - (intOf i).toNat)
  case atStart => exact ⟨0, Nat.zero_le _, rfl, ⟨own_nil', own_nil', fun g h => by cases h⟩, Ext.rf _⟩
  case round =>
    obtain ⟨k, hk, rfl, htw, hx⟩ := hrel
    have HTW := Lib.hid htw; have HX := Lib.hid hx
    have hb := hx.lt HB1.out
    have b1 := cellAt hb 1
    have b2 := cellAt hb 2
    obtain ⟨As, cs, rfl⟩ := own_form htw.a
    obtain ⟨Aq, cq, rfl⟩ := own_form htw.b
    clear htw hx hb
    by_cases hlt : k < f.ps.length
    · have hlv : k < f.vars.length := by rw [HL.out]; exact hlt
      obtain ⟨b, o, rfl, hbl, h0, h1⟩ := HP.out.at_ hlt
      obtain ⟨b', o', rfl, hbl', y0, -⟩ := HV.out.at_ hlv
      have h0 := (HE1.out.tr HX.out).keep h0
      have h1 := (HE1.out.tr HX.out).keep h1
      have y0 := (HE1.out.tr HX.out).keep y0
      have HF := Lib.hid (parV_take false hlv hlt)
      have HT := Lib.hid (parV_take true hlv hlt)
      have hn1 := parV_len false (f.vars.take k) (f.ps.take k)
      have hn2 := parV_len true (f.vars.take k) (f.ps.take k)
      have hn3 : (f.vars.take k).length = k := by rw [List.length_take]; omega
      generalize f.ps[k] = a at *
      generalize f.vars[k] = v at *
      obtain ⟨q, hq⟩ : ∃ q, a.co = q := ⟨_, rfl⟩
      rw [hq] at h1 HF HT
      generalize parV false (f.vars.take k) (f.ps.take k) = X at *
      generalize parV true (f.vars.take k) (f.ps.take k) = Y at *
      have hkv : (k : Int) < f.vars.length := by omega
      have hzx := HX.out.size
      clear hq
      cases q
      · have c2 := (Ext.al wr (.cells #[.int .i64 a.ty, .bool false] 114)).keep b2
        have c3 := (Ext.al wr (.cells #[.int .i64 a.ty, .bool false] 114)).keep y0
        have HFX : Hid (parV false (f.vars.take (k + 1)) (f.ps.take (k + 1)) = X ++ [v]) := HF.out
        have HTY : Hid (parV true (f.vars.take (k + 1)) (f.ps.take (k + 1)) = Y) := by show _ = _; rw [HT.out]; simp
        go_wp2_with (at_builtin; refine wpl_app (t := 31) (e := 3) (size := 1) (bytes := 8) Tryz.underlying31 Tryz.iInt rfl (by decide) (by decide) rfl (.tmp 24) (.tmp 30) rfl w1.heap.size _ X.length _ rfl (own_below HTW.out.a (Ext.al2 _ _ _)) _ 1 1 [.int .i64 v] rfl (src_one (heapNew2 _ _ _)) (one_mem rfl) (by omega) (Nat.le_trans HX.out.size (by simp; try omega)) ?_; rintro v' w' ho' hg' ht')
        have HT2 := Lib.hid ((HTW.out.ext (Ext.al2 _ _ _)).grow ho' hg' ht')
        have HG2 := Lib.hid (Below.trans (HX.out.tr (Ext.al2 _ _ _)) (grown_ext' (B := w1.heap.size) hg' (own_below HTW.out.a (Ext.al2 _ _ _)) (Nat.le_trans HX.out.size (by simp; try omega))))
        clear ho' hg' ht'
        go_wp2
        go_roundw
        case rel => exact ⟨k + 1, by omega, by go_num, by rw [HFX.out, HTY.out]; exact HT2.out, HG2.out⟩
        case measure => simp [intOf]; omega
      · have c2 := (Ext.al wr (.cells #[.int .i64 a.ty, .bool true] 114)).keep b2
        have c3 := (Ext.al wr (.cells #[.int .i64 a.ty, .bool true] 114)).keep y0
        have HFX : Hid (parV false (f.vars.take (k + 1)) (f.ps.take (k + 1)) = X) := by show _ = _; rw [HF.out]; simp
        have HTY : Hid (parV true (f.vars.take (k + 1)) (f.ps.take (k + 1)) = Y ++ [v]) := HT.out
        go_wp2_with (at_builtin; refine wpl_app (t := 31) (e := 3) (size := 1) (bytes := 8) Tryz.underlying31 Tryz.iInt rfl (by decide) (by decide) rfl (.tmp 16) (.tmp 22) rfl w1.heap.size _ Y.length _ rfl (own_below HTW.out.b (Ext.al2 _ _ _)) _ 1 1 [.int .i64 v] rfl (src_one (heapNew2 _ _ _)) (one_mem rfl) (by omega) (Nat.le_trans HX.out.size (by simp; try omega)) ?_; rintro v' w' ho' hg' ht')
        have HT2 := Lib.hid ((HTW.out.ext (Ext.al2 _ _ _)).swap.grow ho' hg' ht').swap
        have HG2 := Lib.hid (Below.trans (HX.out.tr (Ext.al2 _ _ _)) (grown_ext' (B := w1.heap.size) hg' (own_below HTW.out.b (Ext.al2 _ _ _)) (Nat.le_trans HX.out.size (by simp; try omega))))
        clear ho' hg' ht'
        go_wp2
        go_roundw
        case rel => exact ⟨k + 1, by omega, by go_num, by rw [HFX.out, HTY.out]; exact HT2.out, HG2.out⟩
        case measure => simp [intOf]; omega
    · have hke : k = f.ps.length := by omega
      have hte : f.ps.take k = f.ps := List.take_of_length_le (by omega)
      have htv : f.vars.take k = f.vars := List.take_of_length_le (by rw [HL.out]; omega)
      rw [hte, htv] at HTW
      rw [hte, htv]
      go_wp2
      refine bodyPost_ret (results_tmp2 rfl _ _ _) rfl ?_
      exact ⟨⟨_, _, rfl, own_ints (fun x hx => HOKV.out x (parV_mem _ _ _ _ hx)) HTW.out.a, own_ints (fun x hx => HOKV.out x (parV_mem _ _ _ _ hx)) HTW.out.b⟩, HE1.out.tr HX.out⟩
end Go.Proofs.YtkdhhcidpklgoaaGreatDoor

namespace Go.Proofs.YtkdhhcidpklgoaaGreatDoor
open Go.RowKit

def codB (l : List Decl) (t : Int) : Bool := if 1 ≤ t then (l[(t - 1).toNat]?.map Decl.codata).getD false else false
theorem codB_in {l : List Decl} {t : Nat} (h : t < l.length) : codB l (t + 1) = (l[t]).codata := by
  unfold codB
  have e : ((t : Int) + 1 - 1).toNat = t := by omega
  rw [if_pos (by omega), e, List.getElem?_eq_getElem h]; rfl
theorem codB_out {l : List Decl} {t : Int} (h : ¬ (1 ≤ t ∧ t ≤ l.length)) : codB l t = false := by
  unfold codB
  split
  · rw [List.getElem?_eq_none (by omega)]; rfl
  · rfl
theorem RCodata_any (v : Value) (l : List Decl) (t : Int) (w : World) (h : RDecls w v l) :
    Calls Tryz.prog 85 #[v, .int .i64 t] w fun e w' => e = .returned (.bool (codB l t)) ∧ w = w' := by
  have HR := Lib.hid h
  obtain ⟨A, c, rfl, hc, hm⟩ := h.form
  clear h
  unfold maxLen at hm
  by_cases hr : 1 ≤ t ∧ t ≤ l.length
  · obtain ⟨u, hu⟩ : ∃ u : Nat, t = u + 1 := ⟨(t - 1).toNat, by omega⟩
    subst hu
    have hul : u < l.length := by omega
    clear hr
    have HI := Lib.hid (codB_in hul)
    obtain ⟨b, o, vx, rfl, hbl, h0, h1, h2, h3, h4⟩ := HR.out.at_ hul
    clear h3
    generalize l[u] = d at *
    go_enter Tryz.func85, Tryz.ntmps85
    go_wp2
    go_ret
    exact ⟨ret_bool (by rw [HI.out]), rfl⟩
  · have HI := Lib.hid (codB_out hr)
    by_cases h1 : 1 ≤ t
    all_goals
      have hn1 : t < 1 ∨ (l.length : Int) < t := by omega
      clear hr
      go_enter Tryz.func85, Tryz.ntmps85
      go_wp2
      go_ret
      exact ⟨ret_bool HI.out.symm, rfl⟩

def hasI (l : List Decl) (t n : Int) : Bool := if 1 ≤ t ∧ 0 ≤ n then decide (n < ((l[(t - 1).toNat]?.map fun d => d.xtors.length).getD 0 : Nat)) else false
theorem hasI_in {l : List Decl} {t : Nat} {n : Int} (h : t < l.length) (h0 : 0 ≤ n) : hasI l (t + 1) n = decide (n < ((l[t]).xtors.length : Int)) := by
  unfold hasI
  have e : ((t : Int) + 1 - 1).toNat = t := by omega
  rw [if_pos (by omega), e, List.getElem?_eq_getElem h]; rfl
theorem hasI_neg {l : List Decl} {t n : Int} (h : ¬ 0 ≤ n) : hasI l t n = false := by
  unfold hasI
  rw [if_neg (by omega)]
theorem hasI_out {l : List Decl} {t n : Int} (h : ¬ (1 ≤ t ∧ t ≤ l.length)) : hasI l t n = false := by
  unfold hasI
  split
  · rw [List.getElem?_eq_none (by omega)]; simp; omega
  · rfl
theorem RHas_any (v : Value) (l : List Decl) (t n : Int) (w : World) (h : RDecls w v l) :
    Calls Tryz.prog 86 #[v, .int .i64 t, .int .i64 n] w fun e w' => e = .returned (.bool (hasI l t n)) ∧ w = w' := by
  have HR := Lib.hid h
  obtain ⟨A, c, rfl, hc, hm⟩ := h.form
  clear h
  unfold maxLen at hm
  by_cases hr : 1 ≤ t ∧ t ≤ l.length
  · obtain ⟨u, hu⟩ : ∃ u : Nat, t = u + 1 := ⟨(t - 1).toNat, by omega⟩
    subst hu
    have hul : u < l.length := by omega
    clear hr
    obtain ⟨b, o, vx, rfl, hbl, h0, h1, h2, h3, h4⟩ := HR.out.at_ hul
    obtain ⟨A2, c2, rfl, hc2, hm2⟩ := h3.form
    unfold maxLen at hm2
    clear h3
    by_cases hn : 0 ≤ n
    · have HI := Lib.hid (hasI_in hul hn)
      generalize l[u] = d at *
      go_enter Tryz.func86, Tryz.ntmps86
      go_wp2
      go_ret
      exact ⟨ret_bool (by rw [HI.out]), rfl⟩
    · have HI := Lib.hid (hasI_neg (l := l) (t := u + 1) hn)
      generalize l[u] = d at *
      go_enter Tryz.func86, Tryz.ntmps86
      go_wp2
      go_ret
      exact ⟨ret_bool (by rw [HI.out]), rfl⟩
  · have HI := Lib.hid (hasI_out (n := n) hr)
    by_cases h1 : 1 ≤ t
    all_goals
      have hn1 : t < 1 ∨ (l.length : Int) < t := by omega
      clear hr
      go_enter Tryz.func86, Tryz.ntmps86
      go_wp2
      go_ret
      exact ⟨ret_bool HI.out.symm, rfl⟩
end Go.Proofs.YtkdhhcidpklgoaaGreatDoor

namespace Go.Proofs.YtkdhhcidpklgoaaGreatDoor
open Go.RowKit

/-! ### the reference's validity -/
def prevB (P : List Decl) (nm : ByteArray) : Bool := P.any fun e => e.name.toList == nm.toList
def isX (t : Int) (X : List ByteArray) (x : Xtor) : Bool := xtorB x.name && decide (x.args.length ≤ 6) && !hasS X x.name && x.args.all (okTy t)
def isXs (t : Int) : List ByteArray → List Xtor → Bool
  | _, [] => true
  | X, x :: r => isX t X x && isXs t (X ++ [x.name]) r
def isD (t : Int) (P : List Decl) (X : List ByteArray) (d : Decl) : Bool := nameB d.name && decide (1 ≤ d.xtors.length ∧ d.xtors.length ≤ 6) && !prevB P d.name && isXs t X d.xtors
def isDs (t : Int) : List Decl → List ByteArray → List Decl → Bool
  | _, _, [] => true
  | P, X, d :: r => isD t P X d && isDs t (P ++ [d]) (addXs X d.xtors) r
def isB (l : List Decl) : Bool := decide (l.length ≤ 8) && isDs l.length [] [] l
theorem isB_bad {l : List Decl} (h : ¬ l.length ≤ 8) : isB l = false := by simp [isB, h]
theorem isB_good {l : List Decl} (h : l.length ≤ 8) : isB l = isDs l.length [] [] l := by simp [isB, h]
theorem isDs_cons (t : Int) (P : List Decl) (X : List ByteArray) (d : Decl) (r : List Decl) : isDs t P X (d :: r) = (isD t P X d && isDs t (P ++ [d]) (addXs X d.xtors) r) := rfl
theorem isXs_cons (t : Int) (X : List ByteArray) (x : Xtor) (r : List Xtor) : isXs t X (x :: r) = (isX t X x && isXs t (X ++ [x.name]) r) := rfl
theorem isD_bad1 {t : Int} {P : List Decl} {X : List ByteArray} {d : Decl} (h : nameB d.name = false) : isD t P X d = false := by simp [isD, h]
theorem isD_bad2 {t : Int} {P : List Decl} {X : List ByteArray} {d : Decl} (h : ¬ (1 ≤ d.xtors.length ∧ d.xtors.length ≤ 6)) : isD t P X d = false := by unfold isD; rw [decide_eq_false h]; simp
theorem isD_bad3 {t : Int} {P : List Decl} {X : List ByteArray} {d : Decl} (h : prevB P d.name = true) : isD t P X d = false := by simp [isD, h]
theorem isD_good {t : Int} {P : List Decl} {X : List ByteArray} {d : Decl} (h1 : nameB d.name = true) (h2 : 1 ≤ d.xtors.length ∧ d.xtors.length ≤ 6) (h3 : prevB P d.name = false) : isD t P X d = isXs t X d.xtors := by simp [isD, h1, h2.1, h2.2, h3]
theorem isX_bad1 {t : Int} {X : List ByteArray} {x : Xtor} (h : xtorB x.name = false) : isX t X x = false := by simp [isX, h]
theorem isX_bad2 {t : Int} {X : List ByteArray} {x : Xtor} (h : ¬ x.args.length ≤ 6) : isX t X x = false := by simp [isX, h]
theorem isX_bad3 {t : Int} {X : List ByteArray} {x : Xtor} (h : hasS X x.name = true) : isX t X x = false := by simp [isX, h]
theorem isX_good {t : Int} {X : List ByteArray} {x : Xtor} (h1 : xtorB x.name = true) (h2 : x.args.length ≤ 6) (h3 : hasS X x.name = false) : isX t X x = x.args.all (okTy t) := by simp [isX, h1, h2, h3]
theorem hasS_cons (s : ByteArray) (S : List ByteArray) (k : ByteArray) : hasS (s :: S) k = ((k.toList == s.toList) || hasS S k) := rfl
theorem prevB_cons (e : Decl) (P : List Decl) (k : ByteArray) : prevB (e :: P) k = ((e.name.toList == k.toList) || prevB P k) := rfl
theorem okTy_bad' {t : Int} {a : Arg} (h : a.ty < 0 ∨ t < a.ty) : okTy t a = false := by simp [okTy]; omega
theorem okTy_good' {t : Int} {a : Arg} (h : 0 ≤ a.ty) (h2 : a.ty ≤ t) : okTy t a = true := by simp [okTy]; omega

/-- What the call owns stays so where all that was there is as it was. -/
theorem own_ext {w w' : World} {base : Nat} {e : TypeId} {size : Nat} {v : Value} {n : Nat} {xs : List Value} (h : w.ownsRow base e size v n xs) (hb : Ext w w') : w'.ownsRow base e size v n xs := by
  obtain ⟨h1, h2⟩ := h
  refine ⟨h1, ?_⟩
  rcases h2 with h2 | ⟨g, cap, cur, e1, e2, e3, e4⟩
  · exact .inl h2
  · exact .inr ⟨g, cap, cur, e1, e2, (hb.block g (Array.getElem?_eq_some_iff.1 e3).1).trans e3, e4⟩
theorem own_formI {w : World} {base : Nat} {e : TypeId} {size : Nat} {v : Value} {n : Nat} {xs : List Value} (h : w.ownsRow base e size v n xs) : ∃ A c, v = .slice A n c ∧ n ≤ c ∧ c ≤ maxLen ∧ ∀ j u, xs[j]? = some u → ∃ g, A = some ⟨g, 0, none⟩ ∧ g < w.heap.size ∧ base ≤ g ∧ w.cell? ⟨g, j, none⟩ = some u := by
  rcases h.2 with ⟨rfl, rfl⟩ | ⟨g, cap, cur, rfl, e2, e3, e4, e5, e6, e7⟩
  · refine ⟨none, 0, rfl, Nat.le_refl _, by unfold maxLen; omega, fun j u hu => ?_⟩
    have h1 := h.1
    rw [Nat.zero_mul] at h1
    rw [List.eq_nil_of_length_eq_zero h1] at hu
    simp at hu
  · refine ⟨_, _, rfl, e4, e5, fun j u hu => ⟨g, rfl, (Array.getElem?_eq_some_iff.1 e3).1, e2, ?_⟩⟩
    have hj : j < xs.length := by
      rcases Nat.lt_or_ge j xs.length with h1 | h1
      · exact h1
      · rw [List.getElem?_eq_none h1] at hu; cases hu
    rw [World.ownsRow.cellAt h j (by rw [← h.1]; exact hj)]
    exact hu

theorem Tryz.info9 : (Tryz.prog.info? 9).map (fun i => (i.zero, i.size, i.bytes)) = some (some (.string ⟨#[]⟩), 1, 16) := by kernel_rfl
set_option maxHeartbeats 2000000 in
set_option maxRecDepth 100000 in
theorem Is_any (v : Value) (l : List Decl) (w : World) (h : RDecls w v l) :
    Calls Tryz.prog 23 #[v] w fun e w' => e = .returned (.bool (isB l)) ∧ Ext w w' := by
  obtain ⟨i0, hi, hz0, hz1, hz2⟩ := info_parts Tryz.info9
  have HI := Lib.hid hi; have HZ0 := Lib.hid hz0; have HZ1 := Lib.hid hz1; have HZ2 := Lib.hid hz2; clear hi hz0 hz1 hz2
  have HB := Lib.hid (@isB_bad l)
  have HG := Lib.hid (@isB_good l)
  generalize hrr : isB l = rr at *
  clear hrr
  have HR := Lib.hid h
  obtain ⟨A, c, rfl, hc, hm⟩ := h.form
  clear h
  unfold maxLen at hm
  go_enter Tryz.func23, Tryz.ntmps23
  by_cases h8 : l.length ≤ 8
  · have HG := Lib.hid (HG.out h8)
    go_wp2
    go_loopw [3, 19] (fun xv i wr => ∃ (k : Nat) (X : List ByteArray), k ≤ l.length ∧ i = .int .i64 k ∧ wr.ownsRow w.heap.size 9 1 xv X.length (X.map Value.string) ∧ X.length ≤ 6 * k ∧ Below w.heap.size w wr ∧ isDs l.length [] [] l = isDs l.length (l.take k) X (l.drop k)) (fun _ i _ => l.length - (intOf i).toNat)
    case atStart => exact ⟨0, [], Nat.zero_le _, rfl, World.ownsRow_nil _ _ _ _, by simp, Below.refl _ _, rfl⟩
    case round =>
      obtain ⟨k, X, hk, rfl, hown, hX6, hb, hno⟩ := hrel
      obtain ⟨wo, rfl⟩ : ∃ wo : World, wo = wr := ⟨_, rfl⟩
      have HN := Lib.hid hno; have HB1 := Lib.hid hb; have HO := Lib.hid hown; clear hno hb hown
      by_cases hlt : k < l.length
      · obtain ⟨b, o, vx, rfl, hbl, h0, h1, h2, h3, h4⟩ := HR.out.at_ hlt
        have HD := Lib.hid (drop_step hlt)
        have HT : Hid (l.take k ++ [l[k]] = l.take (k + 1)) := (List.take_succ_eq_append_getElem hlt).symm
        have HRt := Lib.hid (HR.out.take (n := k) (by omega))
        have h0 := (HB1.out.cell hbl).trans h0
        have h1 := (HB1.out.cell hbl).trans h1
        have h2 := (HB1.out.cell hbl).trans h2
        generalize l[k] = d at *
        have HBad1 := Lib.hid (@isD_bad1 l.length (l.take k) X d)
        have HBad2 := Lib.hid (@isD_bad2 l.length (l.take k) X d)
        have HBad3 := Lib.hid (@isD_bad3 l.length (l.take k) X d)
        have HGood := Lib.hid (@isD_good l.length (l.take k) X d)
        obtain ⟨dn, co, xs⟩ := d
        dsimp only at *
        obtain ⟨A2, c2, rfl, hc2, hm2⟩ := h3.form
        unfold maxLen at hm2
        have HX := Lib.hid h3; clear h3
        have HNO : Hid (isD l.length (l.take k) X ⟨dn, co, xs⟩ = false → rr = false) := fun e => by rw [HG.out, HN.out, HD.out, isDs_cons, e]; rfl
        have HW := Lib.hid (HB1.out.trans ((Ext.al wo (Obj.cells #[Value.string dn, Value.bool co, Value.slice A2 xs.length c2] 58)).mono HB1.out.size))
        have HO1 := Lib.hid (own_ext HO.out (Ext.al wo (Obj.cells #[Value.string dn, Value.bool co, Value.slice A2 xs.length c2] 58)))
        have g0 : (wo.alloc (Obj.cells #[Value.string dn, Value.bool co, Value.slice A2 xs.length c2] 58)).cell? ⟨wo.heap.size, 0, none⟩ = some (.string dn) := by
          rw [World.cell?_alloc_at _ _ _ _ rfl]; rfl
        have g2 : (wo.alloc (Obj.cells #[Value.string dn, Value.bool co, Value.slice A2 xs.length c2] 58)).cell? ⟨wo.heap.size, 2, none⟩ = some (.slice A2 xs.length c2) := by
          rw [World.cell?_alloc_at _ _ _ _ rfl]; rfl
        go_wp2_with fail
        (with_reducible refine (Name_any _ _ h4).mono ?_)
        generalize wo.alloc _ = w1 at *
        rintro e w2 ⟨rfl, hb2⟩
        have HW2 := Lib.hid (HW.out.trans (hb2.mono HW.out.size))
        have HO2 := Lib.hid (own_ext HO1.out hb2)
        have g0 := Ext.keep hb2 g0
        have g2 := Ext.keep hb2 g2
        clear hb2 h0 h1 h2
        cases hq : nameB dn
        · have HQ := Lib.hid (HNO.out (HBad1.out hq))
          clear hq
          go_wp2
          go_ret
          exact ⟨ret_bool HQ.out.symm, HW2.out⟩
        · have HQ := Lib.hid hq; clear hq
          by_cases h6 : 1 ≤ xs.length ∧ xs.length ≤ 6
          · have H6 := Lib.hid h6
            obtain ⟨h5, h6⟩ := h6
            go_wp2
            have HRt2 := Lib.hid (HRt.out.below HW2.out)
            have hkl : (l.take k).length = k := by simp; omega
            have HKL := Lib.hid hkl; clear hkl
            generalize l.take k = P at *
            have hPk : k ≤ P.length := by rw [HKL.out]; exact Nat.le_refl _
            have hPk2 : P.length ≤ k := by rw [HKL.out]; exact Nat.le_refl _
            go_loopw [44] (fun i wr => ∃ j : Nat, j ≤ k ∧ i = .int .i64 j ∧ Ext w2 wr ∧ prevB P dn = prevB (P.drop j) dn) (fun i _ => k - (intOf i).toNat)
            case atStart => exact ⟨0, Nat.zero_le _, rfl, Ext.rf _, by simp⟩
            case round =>
              obtain ⟨j, hj, rfl, hb3, hno3⟩ := hrel
              have HN3 := Lib.hid hno3; have HB3 := Lib.hid hb3; clear hno3 hb3
              have g0 := HB3.out.keep g0
              have g2 := HB3.out.keep g2
              by_cases hlt3 : j < k
              · have HP : Hid (RDecls wr (.slice (some ⟨b, o, none⟩) P.length c) P) := by
                  have := HRt2.out.below HB3.out
                  rw [HKL.out]; exact this
                obtain ⟨b3, o3, vx3, he3, hbl3, f0, f1, f2, f3, f4⟩ := HP.out.at_ (k := j) (by omega)
                obtain ⟨rfl, rfl⟩ : b = b3 ∧ o = o3 := by
                  simp only [Option.some.injEq, Addr.mk.injEq] at he3; exact ⟨he3.1, he3.2.1⟩
                clear he3
                have HD3 := Lib.hid (drop_step (l := P) (k := j) (by omega))
                generalize P[j] = e at *
                obtain ⟨A3, c3, rfl, -⟩ := f3.form
                clear f3
                have HE3 := Lib.hid (Ext.al wr (Obj.cells #[Value.string e.name, Value.bool e.codata, Value.slice A3 e.xtors.length c3] 58))
                have g0 := HE3.out.keep g0
                cases hq : (e.name.toList == dn.toList)
                · have HQ3 := Lib.hid hq
                  have hq2 : (e.name.toList == dn.toList) = false := hq
                  go_wp2
                  go_roundw
                  case rel => exact ⟨j + 1, by omega, by go_num, HB3.out.tr HE3.out, by rw [HN3.out, HD3.out, prevB_cons, HQ3.out]; rfl⟩
                  case measure => simp [intOf]; omega
                · have HQ3 := Lib.hid hq
                  go_wp2
                  go_ret
                  exact ⟨ret_bool (HNO.out (HBad3.out (by rw [HN3.out, HD3.out, prevB_cons, HQ3.out]; rfl))).symm, HW2.out.trans ((HB3.out.tr HE3.out).mono HW2.out.size)⟩
              · have HPv : Hid (prevB P dn = false) := by rw [HN3.out, drop_end (by omega)]; rfl
                have HG2 := Lib.hid (HGood.out HQ.out H6.out HPv.out)
                have HW3 := Lib.hid (HW2.out.trans (HB3.out.mono HW2.out.size))
                have HO3 := Lib.hid (own_ext HO2.out HB3.out)
                obtain ⟨w3, rfl⟩ : ∃ w3 : World, w3 = wr := ⟨_, rfl⟩
                clear HRt HRt2 HBad1 HBad2 HBad3 HGood
                go_wp2
                go_loopw [3, 57] (fun xv i wr => ∃ (j : Nat) (Y : List ByteArray), j ≤ xs.length ∧ i = .int .i64 j ∧ wr.ownsRow w.heap.size 9 1 xv Y.length (Y.map Value.string) ∧ Y.length ≤ 6 * k + j ∧ Below w.heap.size w wr ∧ isXs l.length X xs = isXs l.length Y (xs.drop j) ∧ addXs X xs = addXs Y (xs.drop j)) (fun _ i _ => xs.length - (intOf i).toNat)
                case atStart => exact ⟨0, X, Nat.zero_le _, rfl, HO3.out, by omega, HW3.out, rfl, rfl⟩
                case round =>
                  obtain ⟨j, Y, hj, rfl, hown4, hY6, hb4, hno4, had4⟩ := hrel
                  have HN4 := Lib.hid hno4; have HB4 := Lib.hid hb4; have HO4 := Lib.hid hown4; have HA4 := Lib.hid had4; clear hno4 hb4 hown4 had4
                  obtain ⟨wp, rfl⟩ : ∃ wp : World, wp = wr := ⟨_, rfl⟩
                  clear g0 g2
                  by_cases hlt4 : j < xs.length
                  · obtain ⟨b4, o4, va4, rfl, hbl4, f0, f1, f2, f3⟩ := HX.out.at_ hlt4
                    have HD4 := Lib.hid (drop_step hlt4)
                    have f0 := (HB4.out.cell hbl4).trans f0
                    have f1 := (HB4.out.cell hbl4).trans f1
                    generalize xs[j] = x at *
                    have HNO4 : Hid (isX l.length Y x = false → rr = false) := fun e => HNO.out (by rw [HG2.out, HN4.out, HD4.out, isXs_cons, e]; rfl)
                    obtain ⟨A5, c5, rfl, hc5, hm5⟩ := f2.form
                    unfold maxLen at hm5
                    have HXA := Lib.hid f2; clear f2
                    have hE5 := Ext.al wp (Obj.cells #[Value.string x.name, Value.slice A5 x.args.length c5] 55)
                    have HW5 := Lib.hid (HB4.out.trans (hE5.mono HB4.out.size))
                    have HO5 := Lib.hid (own_ext HO4.out hE5)
                    clear hE5
                    have q0 : (wp.alloc (Obj.cells #[Value.string x.name, Value.slice A5 x.args.length c5] 55)).cell? ⟨wp.heap.size, 0, none⟩ = some (.string x.name) := by
                      rw [World.cell?_alloc_at _ _ _ _ rfl]; rfl
                    have q1 : (wp.alloc (Obj.cells #[Value.string x.name, Value.slice A5 x.args.length c5] 55)).cell? ⟨wp.heap.size, 1, none⟩ = some (.slice A5 x.args.length c5) := by
                      rw [World.cell?_alloc_at _ _ _ _ rfl]; rfl
                    go_wp2_with fail
                    (with_reducible refine (XtorName_any _ _ f3).mono ?_)
                    generalize wp.alloc _ = w5 at *
                    rintro e w5' ⟨rfl, rfl⟩
                    cases hq : xtorB x.name
                    · have HQ5 := Lib.hid (HNO4.out (isX_bad1 hq))
                      clear hq
                      go_wp2
                      go_ret
                      exact ⟨ret_bool HQ5.out.symm, HW5.out⟩
                    · have HQ5 := Lib.hid hq; clear hq
                      by_cases h66 : x.args.length ≤ 6
                      · have H66 := Lib.hid h66
                        obtain ⟨A6, c6, he6, hc6, hm6, hcell6⟩ := own_formI HO5.out
                        have HC6 := Lib.hid hcell6; clear hcell6
                        subst he6
                        unfold maxLen at hm6
                        go_wp2
                        go_loop [73] (fun i => ∃ q : Nat, q ≤ Y.length ∧ i = .int .i64 q ∧ hasS Y x.name = hasS (Y.drop q) x.name) (fun i => Y.length - (intOf i).toNat)
                        case atStart => exact ⟨0, Nat.zero_le _, rfl, by simp⟩
                        case round =>
                          obtain ⟨q, hq6, rfl, hno6⟩ := hrel
                          have HN6 := Lib.hid hno6; clear hno6
                          by_cases hlt6 : q < Y.length
                          · obtain ⟨g, rfl, hgl, hgb, e0⟩ := HC6.out q (.string Y[q]) (by rw [List.getElem?_map, List.getElem?_eq_getElem hlt6]; rfl)
                            have HD6 := Lib.hid (drop_step hlt6)
                            generalize Y[q] = y at *
                            cases hqq : (x.name.toList == y.toList)
                            · have HQ7 := Lib.hid hqq
                              have hq2 : (x.name.toList == y.toList) = false := hqq
                              go_wp2
                              go_round
                              case rel => exact ⟨q + 1, by omega, by go_num, by rw [HN6.out, HD6.out, hasS_cons, HQ7.out]; rfl⟩
                              case measure => simp [intOf]; omega
                            · have HQ7 := Lib.hid hqq
                              have hq2 : (x.name.toList == y.toList) = true := hqq
                              go_wp2
                              go_ret
                              exact ⟨ret_bool (HNO4.out (isX_bad3 (by rw [HN6.out, HD6.out, hasS_cons, HQ7.out]; rfl))).symm, HW5.out⟩
                          · have HS7 : Hid (hasS Y x.name = false) := by rw [HN6.out, drop_end hlt6]; rfl
                            have HG7 := Lib.hid (isX_good (t := l.length) HQ5.out H66.out HS7.out)
                            clear HN6
                            have hlen : Y.length ≤ 100 := by omega
                            have HXA7 := Lib.hid (HXA.out.below HW5.out)
                            go_wp2_with (at_builtin; refine wpList_append_own _ rfl (.tmp 82) (.tmp 85) 111 rfl w.heap.size 9 i0 (.string ⟨#[]⟩) 1 16 Tryz.underlying111 HI.out HZ0.out HZ1.out HZ2.out rfl (by decide) (.slice A6 Y.length c6) Y.length (Y.map Value.string) rfl (HO5.out.alloc _) ⟨w5.heap.size, 0, none⟩ 1 1 [.string x.name] rfl rfl ?c1 ?c2 ?c3 ?c4 ?c5 ?_)
                            case c2 => rfl
                            case c3 => unfold maxLen; omega
                            case c4 => omega
                            case c5 => have := HW5.out.size; omega
                            intro v' w6 hown6 hg6 _
                            have hlt6' := HO4.out.lt
                            have hr6 : ∀ k, (Value.slice A6 Y.length c6).ownBlock = some k → w.heap.size ≤ k := fun k e => (hlt6' k e).1
                            have hne6 : some wp.heap.size ≠ (Value.slice A6 Y.length c6).ownBlock := fun e => by have := (hlt6' _ e.symm).2; omega
                            have HW6 := Lib.hid (Below.grown (HW5.out.alloc HW5.out.size _) hg6 (by have := HW5.out.size; simp; omega) hr6)
                            have q1 : w6.cell? ⟨wp.heap.size, 1, none⟩ = some (.slice A5 x.args.length c5) :=
                              (World.cell?_of_block (a := ⟨wp.heap.size, 1, none⟩) (hg6.block wp.heap.size (by have := cell_lt q1; simp at this ⊢; omega) hne6)).trans ((Ext.al w5 _).keep q1)
                            have hown7 : w6.ownsRow w.heap.size 9 1 v' (Y ++ [x.name]).length ((Y ++ [x.name]).map Value.string) := by simpa using hown6
                            have HO6 := Lib.hid hown7
                            clear hown6 hown7 hg6 hlt6' hr6 hne6 q0
                            have HXA7 := Lib.hid (HXA.out.below HW6.out)
                            generalize x.args = gs at *
                            go_wp2
                            go_loopw [90] (fun i wr => ∃ r : Nat, r ≤ gs.length ∧ i = .int .i64 r ∧ Ext w6 wr ∧ gs.all (okTy l.length) = (gs.drop r).all (okTy l.length)) (fun i _ => gs.length - (intOf i).toNat)
                            case atStart => exact ⟨0, Nat.zero_le _, rfl, Ext.rf _, by simp⟩
                            case round =>
                              obtain ⟨r, hr7, rfl, hb7, hno7⟩ := hrel
                              have HN7 := Lib.hid hno7; have HB7 := Lib.hid hb7; clear hno7 hb7
                              by_cases hlt7 : r < gs.length
                              · have HXA8 := Lib.hid (HXA7.out.below HB7.out)
                                obtain ⟨b7, o7, rfl, hbl7, e0, e1⟩ := HXA8.out.at_ hlt7
                                have HD7 := Lib.hid (drop_step hlt7)
                                generalize gs[r] = a at *
                                have HW8 := Lib.hid (HB7.out.tr (Ext.al wr (Obj.cells #[Value.int IntKind.i64 a.ty, Value.bool a.co] 114)))
                                by_cases hA : 0 ≤ a.ty <;> by_cases hB : a.ty ≤ l.length
                                rotate_left 3
                                · exfalso; omega
                                · have HQ8 := Lib.hid (okTy_good' hA hB)
                                  go_wp2
                                  go_roundw
                                  case rel => exact ⟨r + 1, by omega, by go_num, HW8.out, by rw [HN7.out, HD7.out, List.all_cons, HQ8.out]; rfl⟩
                                  case measure => simp [intOf]; omega
                                all_goals
                                  have HQ8 := Lib.hid (okTy_bad' (t := l.length) (a := a) (by omega))
                                  go_wp2
                                  go_ret
                                  exact ⟨ret_bool (HNO4.out (by rw [HG7.out, HN7.out, HD7.out, List.all_cons, HQ8.out]; rfl)).symm, HW6.out.trans (HW8.out.mono HW6.out.size)⟩
                              · go_wp2
                                go_roundw
                                case rel => exact ⟨j + 1, Y ++ [x.name], by omega, by go_num, own_ext HO6.out HB7.out, by simp; omega, HW6.out.trans (HB7.out.mono HW6.out.size), by rw [HN4.out, HD4.out, isXs_cons, HG7.out, HN7.out, drop_end hlt7]; rfl, by rw [HA4.out, HD4.out]; simp [addXs]⟩
                                case measure => simp [intOf]; omega
                      · have HQ6 := Lib.hid (HNO4.out (isX_bad2 h66))
                        go_wp2
                        go_ret
                        exact ⟨ret_bool HQ6.out.symm, HW5.out⟩
                  · go_wp2
                    go_roundw
                    case rel => exact ⟨k + 1, Y, by omega, by go_num, HO4.out, by omega, HB4.out, by rw [HN.out, HD.out, isDs_cons, HG2.out, HN4.out, HT.out, HA4.out, drop_end hlt4]; simp [isXs, addXs]⟩
                    case measure => simp [intOf]; omega
          · have HQ2 := Lib.hid (HNO.out (HBad2.out h6))
            by_cases h5 : 1 ≤ xs.length
            all_goals
              have h7 : ¬ xs.length ≤ 6 ∨ ¬ 1 ≤ xs.length := by omega
              go_wp2
              go_ret
              exact ⟨ret_bool HQ2.out.symm, HW2.out⟩
      · go_wp2
        go_ret
        exact ⟨ret_bool (by rw [HG.out, HN.out, drop_end hlt]; rfl), HB1.out⟩
  · have HQ := Lib.hid (HB.out h8)
    go_wp2
    go_ret
    exact ⟨ret_bool HQ.out.symm, Ext.rf _⟩
end Go.Proofs.YtkdhhcidpklgoaaGreatDoor

namespace Go.Proofs.YtkdhhcidpklgoaaGreatDoor
open Go.RowKit

theorem beqL {a b : List UInt8} (h : (a == b) = true) : a = b := by simpa using h
theorem apartE {a b : ByteArray} (ha : nameB a = true) (hb : xtorB b = true) : (a.toList == b.toList) = false := by
  cases h : (a.toList == b.toList)
  · rfl
  · have e := beqL h
    rw [ByteArray.toList_eq, ByteArray.toList_eq] at e
    have e2 : headI a = headI b := by unfold headI; rw [e]
    simp only [nameB, xtorB, Bool.and_eq_true] at ha hb
    have h1 := ha.1.1.2
    have h2 := hb.1.2
    rw [e2] at h1
    simp [lowB] at h1
    simp [upB] at h2
    omega
theorem beq_comm' (a b : List UInt8) : (a == b) = (b == a) := by
  rw [Bool.eq_iff_iff]; simp only [beq_iff_eq]; exact eq_comm

structure Inv (S : List ByteArray) (P : List Decl) (X : List ByteArray) : Prop where
  has : ∀ k, hasS S k = (prevB P k || hasS X k)
  low : ∀ e ∈ P, nameB e.name = true
  up : ∀ x ∈ X, xtorB x = true
theorem prevB_append (P Q : List Decl) (k : ByteArray) : prevB (P ++ Q) k = (prevB P k || prevB Q k) := by simp [prevB]
theorem Inv.noX {S : List ByteArray} {P : List Decl} {X : List ByteArray} (h : Inv S P X) {k : ByteArray} (hk : nameB k = true) : hasS X k = false := by
  unfold hasS
  rw [List.any_eq_false]
  intro x hx
  rw [apartE hk (h.up x hx)]
  simp
theorem Inv.noP {S : List ByteArray} {P : List Decl} {X : List ByteArray} (h : Inv S P X) {k : ByteArray} (hk : xtorB k = true) : prevB P k = false := by
  unfold prevB
  rw [List.any_eq_false]
  intro e he
  rw [apartE (h.low e he) hk]
  simp
theorem Inv.addD2 {S : List ByteArray} {P : List Decl} {X : List ByteArray} (h : Inv S P X) {d : Decl} (hk : nameB d.name = true) : Inv (S ++ [d.name]) (P ++ [d]) X where
  has k := by
    rw [hasS_append, prevB_append, h.has]
    have : hasS [d.name] k = prevB [d] k := by simp [hasS, prevB, beq_comm']
    rw [this]
    cases prevB P k <;> cases hasS X k <;> cases prevB [d] k <;> rfl
  low e he := by
    rcases List.mem_append.1 he with h1 | h1
    · exact h.low e h1
    · rw [List.mem_singleton.1 h1]; exact hk
  up := h.up
theorem Inv.addX {S : List ByteArray} {P : List Decl} {X : List ByteArray} (h : Inv S P X) {x : ByteArray} (hk : xtorB x = true) : Inv (S ++ [x]) P (X ++ [x]) where
  has k := by rw [hasS_append, hasS_append, h.has, Bool.or_assoc]
  low := h.low
  up y hy := by
    rcases List.mem_append.1 hy with h1 | h1
    · exact h.up y h1
    · rw [List.mem_singleton.1 h1]; exact hk
theorem okX_isX {S : List ByteArray} {P : List Decl} {X : List ByteArray} (h : Inv S P X) (t : Int) (x : Xtor) : okX t S x = isX t X x := by
  unfold okX isX
  cases hk : xtorB x.name
  · simp
  · rw [h.has, h.noP hk]
    cases hasS X x.name <;> cases decide (x.args.length ≤ 6) <;> rfl
theorem okXs_isXs (t : Int) : ∀ (l : List Xtor) {S : List ByteArray} {P : List Decl} {X : List ByteArray}, Inv S P X → okXs t S l = isXs t X l ∧ (isXs t X l = true → Inv (addXs S l) P (addXs X l))
  | [], S, P, X, h => ⟨rfl, fun _ => by rw [addXs_nil, addXs_nil]; exact h⟩
  | x :: r, S, P, X, h => by
    rw [okXs_cons, isXs_cons, addXs_cons, addXs_cons, okX_isX h]
    cases hx : isX t X x
    · exact ⟨by simp, by simp⟩
    · have hk : xtorB x.name = true := by simp only [isX, Bool.and_eq_true] at hx; exact hx.1.1.1
      have ih := okXs_isXs t r (h.addX hk)
      exact ⟨by simpa using ih.1, by simpa using ih.2⟩
theorem okDs_isDs (t : Int) : ∀ (l : List Decl) {S : List ByteArray} {P : List Decl} {X : List ByteArray}, Inv S P X → okDs t S l = isDs t P X l
  | [], _, _, _, _ => rfl
  | d :: r, S, P, X, h => by
    rw [okDs_cons, isDs_cons]
    cases hk : nameB d.name
    · rw [okD_bad1 hk, isD_bad1 hk]; rfl
    · by_cases h6 : 1 ≤ d.xtors.length ∧ d.xtors.length ≤ 6
      · have h2 := okXs_isXs t d.xtors (h.addD2 hk)
        have hs : hasS S d.name = prevB P d.name := by rw [h.has, h.noX hk, Bool.or_false]
        cases hp : prevB P d.name
        · rw [okD_good hk (hs.trans hp) h6.1 h6.2, isD_good hk h6 hp, h2.1]
          cases hx : isXs t X d.xtors
          · rfl
          · have := okDs_isDs t r (h2.2 hx)
            simp only [Bool.true_and]
            exact this
        · rw [okD_bad2 (hs.trans hp), isD_bad3 hp]; rfl
      · rw [okD_bad3 h6, isD_bad2 h6]; rfl
theorem valid_is (l : List Decl) : validB l = isB l := by
  unfold validB isB
  rw [okDs_isDs (S := []) (P := []) (X := []) _ l ⟨fun _ => rfl, by simp, by simp⟩]
end Go.Proofs.YtkdhhcidpklgoaaGreatDoor
