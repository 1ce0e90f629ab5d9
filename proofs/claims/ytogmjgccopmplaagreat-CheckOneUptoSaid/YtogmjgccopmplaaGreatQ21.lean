/- Types of terms as plain data: the rules, and the first subterm that has no type. -/
import Derived.Test.YtogmjgccopmplaaGreatQ20
import Derived.Deep.LoopGhost
namespace Go.Proofs.YtogmjgccopmplaaGreat

/-- Names with types, the innermost first. -/
abbrev Env := List (Str × Int)
def findE : Env → Str → Option Int
  | [], _ => none
  | (s, y) :: r, x => if s.toList == x.toList then some y else findE r x
/-- A type, or the path to the first subterm that has none. -/
abbrev TyR := List Int ⊕ Int
def prodL (x : Xtor) : List Int := (x.args.filter fun a => !a.co).map Arg.ty
def lastT (x : Xtor) : Int := match x.args.getLast? with | some a => a.ty | none => 0
def xtorAt (P : Pg) (ty n : Int) : Xtor := (declAt P ty).xtors.getD n.toNat noXtor
def fnAt (P : Pg) (n : Int) : Fn := P.funs.getD n.toNat noFn
def eqL : List Int → List Int → Bool
  | [], [] => true
  | a :: r, b :: s => decide (a = b) && eqL r s
  | _, _ => false
theorem eqL_iff : ∀ a b : List Int, eqL a b = true ↔ a = b
  | [], [] => by simp [eqL]
  | [], b :: s => by simp [eqL]
  | a :: r, [] => by simp [eqL]
  | a :: r, b :: s => by simp [eqL, eqL_iff r s]
def okR (b : Bool) (y : Int) : TyR := if b then .inr y else .inl []
/-- The rule of an operator; ps are the types of the children. -/
def ruleS (P : Pg) (V L : Env) (op n : Int) (nm : Str) (ty : Int) (ps : List Int) : TyR :=
  if op = 0 then (match findE V nm with | some y => .inr y | none => .inl [])
  else if op = 1 then .inr 0
  else if op = 2 then okR (decide (ps.getD 0 0 = 0) && decide (ps.getD 1 0 = 0)) 0
  else if op = 3 then okR (decide (ps.getD 0 0 = 0) && decide (ps.getD 1 0 = ps.getD 2 0)) (ps.getD 1 0)
  else if op = 4 then okR (eqL ps (prodL (xtorAt P ty n))) ty
  else if op = 5 then okR ((ps.drop 2).all (fun y => decide (y = ps.getD 1 0)) && decide (ps.getD 0 0 = ty)) (ps.getD 1 0)
  else if op = 6 then okR (eqL ps (prodL (xtorAt P ty n) ++ [ty])) (lastT (xtorAt P ty n))
  else if op = 7 then okR (eqL ps ((declAt P ty).xtors.map lastT)) ty
  else if op = 8 then okR (decide (ps.getD 0 0 = ty)) (ps.getD 1 0)
  else if op = 9 then okR (eqL ps ((fnAt P n).ps.map Prm.ty)) (fnAt P n).res
  else if op = 10 then okR (decide (ps.getD 0 0 = 0)) (ps.getD 1 0)
  else if op = 11 then okR (decide (ps.getD 0 0 = ty)) ty
  else (match findE L nm with | some y => okR (decide (ps.getD 0 0 = y)) ty | none => .inl [])
def argV (op : Int) (nm : Str) (ty : Int) (i : Nat) (V : Env) : Env := if op = 8 ∧ i = 1 then (nm, ty) :: V else V
def argL (op : Int) (nm : Str) (ty : Int) (L : Env) : Env := if op = 11 then (nm, ty) :: L else L
def bindE : List Str → List Int → Env → Env
  | s :: r, y :: q, V => bindE r q ((s, y) :: V)
  | _, _, V => V
mutual
def tyT (P : Pg) : Env → Env → Tm → TyR
  | V, L, .mk op n nm ty args cls => match tyA P op nm ty V L 0 args with
    | .inl p => .inl p
    | .inr a => match tyC P V L args.length (declAt P ty).xtors cls with
      | .inl p => .inl p
      | .inr b => ruleS P V L op n nm ty (a ++ b)
def tyA (P : Pg) (op : Int) (nm : Str) (ty : Int) : Env → Env → Nat → List Tm → List Int ⊕ List Int
  | _, _, _, [] => .inr []
  | V, L, i, a :: r => match tyT P (argV op nm ty i V) (argL op nm ty L) a with
    | .inl p => .inl ((i : Int) :: p)
    | .inr y => match tyA P op nm ty V L (i + 1) r with
      | .inl p => .inl p
      | .inr q => .inr (y :: q)
def tyC (P : Pg) : Env → Env → Nat → List Xtor → List (List Str × Tm) → List Int ⊕ List Int
  | _, _, _, _, [] => .inr []
  | V, L, i, xs, (ns, t) :: r => match tyT P (bindE ns (prodL (xs.headD noXtor)) V) L t with
    | .inl p => .inl ((i : Int) :: p)
    | .inr y => match tyC P V L (i + 1) xs.tail r with
      | .inl p => .inl p
      | .inr q => .inr (y :: q)
end
/-- The children with their scopes, one after another. -/
def kidE (P : Pg) (V L : Env) (t : Tm) (i : Nat) : Env × Env :=
  if i < t.args.length then (argV t.op t.nm t.ty i V, argL t.op t.nm t.ty L)
  else (bindE (t.cls.getD (i - t.args.length) ([], .mk 0 0 ⟨#[]⟩ 0 [] [])).1 (prodL ((declAt P t.ty).xtors.getD (i - t.args.length) noXtor)) V, L)
def kidT (t : Tm) (i : Nat) : Tm := if i < t.args.length then t.args.getD i (.mk 0 0 ⟨#[]⟩ 0 [] []) else (t.cls.getD (i - t.args.length) ([], .mk 0 0 ⟨#[]⟩ 0 [] [])).2
/-- From child i on, k of them. -/
def tyK (P : Pg) (V L : Env) (t : Tm) : Nat → Nat → List Int ⊕ List Int
  | _, 0 => .inr []
  | i, k + 1 => match tyT P (kidE P V L t i).1 (kidE P V L t i).2 (kidT t i) with
    | .inl p => .inl ((i : Int) :: p)
    | .inr y => match tyK P V L t (i + 1) k with
      | .inl p => .inl p
      | .inr q => .inr (y :: q)
theorem tyK_args (P : Pg) (V L : Env) (t : Tm) : ∀ (r : List Tm) (i k : Nat), (∀ j, r[j]? = t.args[i + j]?) → i + r.length = t.args.length →
    tyK P V L t i (r.length + k) = match tyA P t.op t.nm t.ty V L i r with
      | .inl p => .inl p
      | .inr a => match tyK P V L t t.args.length k with
        | .inl p => .inl p
        | .inr b => .inr (a ++ b)
  | [], i, k, _, hl => by
    simp only [List.length_nil, Nat.zero_add, tyA]
    rw [show i = t.args.length by simpa using hl]
    cases tyK P V L t t.args.length k <;> rfl
  | a :: r, i, k, hj, hl => by
    have hi : i < t.args.length := by simp at hl; omega
    have ha : t.args[i]? = some a := by have := hj 0; simpa using this.symm
    have e1 : kidE P V L t i = (argV t.op t.nm t.ty i V, argL t.op t.nm t.ty L) := by unfold kidE; rw [if_pos hi]
    have e2 : kidT t i = a := by unfold kidT; rw [if_pos hi, List.getD_eq_getElem?_getD, ha]; rfl
    have ih := tyK_args P V L t r (i + 1) k (fun j => by have := hj (j + 1); simp at this; rw [this]; congr 1; omega) (by simp at hl; omega)
    rw [List.length_cons, show r.length + 1 + k = (r.length + k) + 1 by omega, tyK, e1, e2, tyA, ih]
    cases tyT P (argV t.op t.nm t.ty i V) (argL t.op t.nm t.ty L) a with
    | inl p => rfl
    | inr y =>
      cases tyA P t.op t.nm t.ty V L (i + 1) r with
      | inl p => rfl
      | inr q => cases tyK P V L t t.args.length k <;> rfl
theorem tyK_cls (P : Pg) (V L : Env) (t : Tm) : ∀ (r : List (List Str × Tm)) (xs : List Xtor) (i : Nat), (∀ j, r[j]? = t.cls[i + j]?) → (∀ j, xs.getD j noXtor = (declAt P t.ty).xtors.getD (i + j) noXtor) →
    tyK P V L t (t.args.length + i) r.length = tyC P V L (t.args.length + i) xs r
  | [], xs, i, _, _ => by simp [tyK, tyC]
  | (ns, a) :: r, xs, i, hj, hx => by
    have ha : t.cls[i]? = some (ns, a) := by have := hj 0; simpa using this.symm
    have e1 : kidE P V L t (t.args.length + i) = (bindE ns (prodL (xs.headD noXtor)) V, L) := by
      unfold kidE
      rw [if_neg (by omega), Nat.add_sub_cancel_left, List.getD_eq_getElem?_getD, ha]
      have := hx 0
      rw [Nat.add_zero] at this
      rw [← this]
      cases xs <;> rfl
    have e2 : kidT t (t.args.length + i) = a := by unfold kidT; rw [if_neg (by omega), Nat.add_sub_cancel_left, List.getD_eq_getElem?_getD, ha]; rfl
    have ih := tyK_cls P V L t r xs.tail (i + 1) (fun j => by have := hj (j + 1); simp at this; rw [this]; congr 1; omega) (fun j => by
      have := hx (j + 1)
      rw [show i + 1 + j = i + (j + 1) by omega, ← this]
      cases xs <;> simp)
    rw [List.length_cons, tyK, e1, e2, tyC, show t.args.length + i + 1 = t.args.length + (i + 1) by omega, ih]
theorem tyT_kids (P : Pg) (V L : Env) (t : Tm) : tyT P V L t = match tyK P V L t 0 (t.args.length + t.cls.length) with
    | .inl p => .inl p
    | .inr ps => ruleS P V L t.op t.n t.nm t.ty ps := by
  rw [tyK_args P V L t t.args 0 t.cls.length (fun j => by rw [Nat.zero_add]) (by simp)]
  have h := tyK_cls P V L t t.cls (declAt P t.ty).xtors 0 (fun j => by rw [Nat.zero_add]) (fun j => by rw [Nat.zero_add])
  rw [Nat.add_zero] at h
  rw [h]
  cases t with
  | mk op n nm ty args cls =>
    rw [tyT]
    show (match tyA P op nm ty V L 0 args with | .inl p => _ | .inr a => _) = _
    simp only [Tm.args, Tm.cls, Tm.op, Tm.nm, Tm.ty, Tm.n]
    cases tyA P op nm ty V L 0 args with
    | inl p => rfl
    | inr a => cases tyC P V L args.length (declAt P ty).xtors cls <;> rfl
/-- The types of the children found so far, as the loop has it. -/
theorem tyK_step (P : Pg) (V L : Env) (t : Tm) : ∀ (i k : Nat), tyK P V L t i (k + 1) = match tyK P V L t i k with
    | .inl p => .inl p
    | .inr ps => match tyT P (kidE P V L t (i + k)).1 (kidE P V L t (i + k)).2 (kidT t (i + k)) with
      | .inl p => .inl (((i + k : Nat) : Int) :: p)
      | .inr y => .inr (ps ++ [y])
  | i, 0 => by
    rw [tyK, tyK, tyK]
    simp only [Nat.add_zero]
    cases tyT P (kidE P V L t i).1 (kidE P V L t i).2 (kidT t i) <;> rfl
  | i, k + 1 => by
    rw [tyK, tyK_step P V L t (i + 1) k, show i + 1 + k = i + (k + 1) by omega]
    conv => rhs; rw [tyK]
    cases tyT P (kidE P V L t i).1 (kidE P V L t i).2 (kidT t i) with
    | inl p => rfl
    | inr y =>
      cases tyK P V L t (i + 1) k with
      | inl p => rfl
      | inr ps => cases tyT P (kidE P V L t (i + (k + 1))).1 (kidE P V L t (i + (k + 1))).2 (kidT t (i + (k + 1))) <;> rfl
theorem tyK_len (P : Pg) (V L : Env) (t : Tm) : ∀ (k i : Nat) (ps : List Int), tyK P V L t i k = .inr ps → ps.length = k
  | 0, i, ps, h => by rw [tyK] at h; cases h; rfl
  | k + 1, i, ps, h => by
    rw [tyK] at h
    cases hy : tyT P (kidE P V L t i).1 (kidE P V L t i).2 (kidT t i) with
    | inl p => rw [hy] at h; cases h
    | inr y =>
      rw [hy] at h
      cases hk : tyK P V L t (i + 1) k with
      | inl p => rw [hk] at h; cases h
      | inr q => rw [hk] at h; cases h; rw [List.length_cons, tyK_len P V L t k (i + 1) q hk]
theorem tyK_bad (P : Pg) (V L : Env) (t : Tm) : ∀ (k m i : Nat) (p : List Int), k ≤ m → tyK P V L t i k = .inl p → tyK P V L t i m = .inl p
  | 0, m, i, p, _, h => by rw [tyK] at h; cases h
  | k + 1, 0, i, p, hm, _ => by omega
  | k + 1, m + 1, i, p, hm, h => by
    rw [tyK] at h ⊢
    cases hy : tyT P (kidE P V L t i).1 (kidE P V L t i).2 (kidT t i) with
    | inl q => rw [hy] at h; exact h
    | inr y =>
      rw [hy] at h
      cases hk : tyK P V L t (i + 1) k with
      | inl q => rw [hk] at h; cases h; simp only [tyK_bad P V L t k m (i + 1) p (by omega) hk]
      | inr q => rw [hk] at h; cases h
end Go.Proofs.YtogmjgccopmplaaGreat

/- scope.go: with, find, linked, bind. -/
namespace Go.Proofs.YtogmjgccopmplaaGreat
open Go.RowKit

/-- Bindings in memory, the innermost first. -/
def RB (w : World) : Env → Value → Prop
  | [], v => v = .pointer none
  | (s, y) :: r, v => ∃ b u, v = .pointer (some ⟨b, 0, none⟩) ∧ w.cell? ⟨b, 0, none⟩ = some (.string s) ∧ w.cell? ⟨b, 1, none⟩ = some (.int .i64 y) ∧ w.cell? ⟨b, 2, none⟩ = some u ∧ RB w r u
theorem RB.below {w w' : World} (hb : Ext w w') : ∀ {E : Env} {v : Value}, RB w E v → RB w' E v
  | [], _, h => h
  | (s, y) :: r, v, ⟨b, u, h1, h2, h3, h4, h5⟩ => ⟨b, u, h1, hb.keep h2, hb.keep h3, hb.keep h4, RB.below hb h5⟩
theorem RB.form {w : World} {E : Env} {v : Value} (h : RB w E v) : ∃ p, v = .pointer p := by
  cases E with
  | nil => exact ⟨none, h⟩
  | cons a r => obtain ⟨b, u, h1, _⟩ := h; exact ⟨_, h1⟩

set_option maxHeartbeats 1000000 in
set_option maxRecDepth 100000 in
theorem bwith_any (E : Env) (v : Value) (s : Str) (y : Int) (w : World) (h : RB w E v) :
    Calls Tryz.prog 68 #[v, .string s, .int .i64 y] w fun e w' => (∃ u, e = .returned u ∧ RB w' ((s, y) :: E) u) ∧ Ext w w' := by
  have H := Lib.hid h
  obtain ⟨p, rfl⟩ := h.form
  clear h
  have HE := Lib.hid (Ext.al w (.cells #[.string s, .int .i64 y, .pointer p] 155))
  have HB := Lib.hid (heapNew w (.cells #[.string s, .int .i64 y, .pointer p] 155))
  go_enter Tryz.func68, Tryz.ntmps68
  go_wp2
  go_ret
  exact ⟨⟨_, rfl, _, _, rfl, cellAt HB.out 0, cellAt HB.out 1, cellAt HB.out 2, H.out.below HE.out⟩, HE.out⟩

def foundR : Option Int → Value
  | some y => .tuple #[.int .i64 y, .bool true]
  | none => .tuple #[.int .i64 0, .bool false]
set_option maxHeartbeats 1000000 in
set_option maxRecDepth 100000 in
theorem bfind_any (E : Env) (v : Value) (s : Str) (w : World) (h : RB w E v) :
    Calls Tryz.prog 95 #[v, .string s] w fun e w' => e = .returned (foundR (findE E s)) ∧ w = w' := by
  have H := Lib.hid h
  obtain ⟨p, rfl⟩ := h.form
  have HR : Hid (foundR (findE E s) = foundR (findE E s)) := rfl
  generalize hrr : foundR (findE E s) = rr at *
  have HRR : Hid (rr = foundR (findE E s)) := hrr.symm
  clear h hrr HR
  go_enter Tryz.func95, Tryz.ntmps95
  go_wp2
  go_loopg [0] E.length (fun k b wr => ∃ r : Env, w = wr ∧ r.length ≤ k ∧ RB w r b ∧ rr = foundR (findE r s))
  case atStart => exact ⟨E, rfl, Nat.le_refl _, H.out, HRR.out⟩
  case round =>
    obtain ⟨r, rfl, hk, hb, hr⟩ := hrel
    have HB := Lib.hid hb
    have HN := Lib.hid hr
    clear hr
    cases r with
    | nil =>
      obtain rfl := hb
      go_wp2
      go_ret2
      exact ⟨by rw [HN.out]; rfl, rfl⟩
    | cons a r =>
      obtain ⟨x, y⟩ := a
      obtain ⟨b, u, rfl, c0, c1, c2, hr⟩ := hb
      obtain ⟨q, rfl⟩ := hr.form
      have HRB := Lib.hid hr
      clear hr
      cases hq : (x.toList == s.toList)
      · have HQ := Lib.hid hq
        go_wp2
        go_roundg r.length
        case measure => simp at hk; omega
        case rel => exact ⟨r, rfl, Nat.le_refl _, HRB.out, by rw [HN.out, findE, HQ.out]; rfl⟩
      · have HQ := Lib.hid hq
        go_wp2
        go_ret2
        exact ⟨by rw [HN.out, findE, HQ.out]; rfl, rfl⟩
end Go.Proofs.YtogmjgccopmplaaGreat

/- rules.go: the rules of the operators. -/
namespace Go.Proofs.YtogmjgccopmplaaGreat
open Go.RowKit

/-- What a rule returns. -/
def Agree (r : TyR) (y : Int) (b : Bool) : Prop := match r with | .inr z => b = true ∧ y = z | .inl _ => b = false
def varR (o : Option Int) : TyR := match o with | some y => .inr y | none => .inl []
abbrev scV (pv pl : Value) : Value := .agg #[pv, pl]
theorem agree_ok {c : Bool} {y : Int} : Agree (okR c y) y c := by unfold okR Agree; cases c <;> simp
theorem box_st (w : World) (a b c d e f g h : Value) :
    ((w.alloc (.cells #[a, b] 81)).alloc (.cells #[c, d, e, f, g, h] 41)).heap[w.heap.size]? = some (.cells #[a, b] 81 (0, 0)) ∧
    ((w.alloc (.cells #[a, b] 81)).alloc (.cells #[c, d, e, f, g, h] 41)).heap[w.heap.size + 1]? = some (.cells #[c, d, e, f, g, h] 41 (0, 0)) := by
  have h1 := heapNew w (.cells #[a, b] 81)
  have h2 := heapNew (w.alloc (.cells #[a, b] 81)) (.cells #[c, d, e, f, g, h] 41)
  rw [World.size_alloc] at h2
  exact ⟨((Ext.al _ _).block _ (heap_lt h1)).trans h1, h2⟩
theorem ints_at0 {w : World} {p : Int} {l : List Int} {A : Option Addr} {c : Nat} (h : RInts w (.slice A (p :: l).length c) (p :: l)) : ∃ b o, A = some ⟨b, o, none⟩ ∧ w.cell? ⟨b, o, none⟩ = some (.int .i64 p) := by
  obtain ⟨b, o, e, _, hc⟩ := h.at_ (k := 0) (by simp)
  exact ⟨b, o, e, by simpa using hc⟩

set_option maxHeartbeats 2000000 in
set_option maxRecDepth 100000 in
theorem r_variable (c : Value) (V L : Env) (pv pl : Value) (k : Nat) (t : Tm) (ux uc : Value) (vp : Value) (ps : List Int) (w : World) (hV : RB w V pv) (hL : RB w L pl) (ht : RT w k t ux uc)  :
    Calls Tryz.prog 55 #[c, scV pv pl, tV t ux uc, vp] w fun e w' => e = .returned (foundR (findE V t.nm)) ∧ Ext w w' := by
  have HV := Lib.hid hV; have HL := Lib.hid hL
  have hmx : Tryz.prog.follows .mixedOrders = true := by kernel_rfl
  obtain ⟨qv, rfl⟩ := hV.form
  obtain ⟨ql, rfl⟩ := hL.form
  obtain ⟨_, ⟨Aa, ca, rfl, -, -⟩, ⟨Bb, cb, rfl, -, -⟩⟩ := ht.form
  clear hV hL ht
  have HE := Lib.hid (Ext.al2 w (.cells #[.pointer qv, .pointer ql] 81) (.cells #[.int .i64 t.op, .int .i64 t.n, .string t.nm, .int .i64 t.ty, .slice Aa t.args.length ca, .slice Bb t.cls.length cb] 41))
  obtain ⟨hb1, hb2⟩ := box_st w (.pointer qv) (.pointer ql) (.int .i64 t.op) (.int .i64 t.n) (.string t.nm) (.int .i64 t.ty) (.slice Aa t.args.length ca) (.slice Bb t.cls.length cb)
  have HB1 := Lib.hid hb1; have HB2 := Lib.hid hb2
  clear hb1 hb2
  obtain ⟨fo, hfo⟩ : ∃ fo, findE V t.nm = fo := ⟨_, rfl⟩
  rw [hfo]
  have HFO := Lib.hid hfo
  clear hfo
  have b0 := cellAt HB1.out 0
  have n2 := cellAt HB2.out 2
  go_enter Tryz.func55, Tryz.ntmps55
  go_wp2_with fail
  generalize World.alloc (World.alloc w _) _ = w1 at *
  clear b0 n2
  (with_reducible refine (bfind_any V _ t.nm _ (HV.out.below HE.out)).mono ?_)
  rw [HFO.out]
  rintro e w2 ⟨rfl, rfl⟩
  cases fo with
  | none =>
    rw [show foundR none = .tuple #[.int .i64 0, .bool false] from rfl]
    go_wp2
    go_ret2
    exact ⟨rfl, HE.out⟩
  | some y =>
    rw [show foundR (some y) = .tuple #[.int .i64 y, .bool true] from rfl]
    go_wp2
    go_ret2
    exact ⟨rfl, HE.out⟩

set_option maxHeartbeats 2000000 in
set_option maxRecDepth 100000 in
theorem r_integer (c : Value) (V L : Env) (pv pl : Value) (k : Nat) (t : Tm) (ux uc : Value) (vp : Value) (ps : List Int) (w : World) (hV : RB w V pv) (hL : RB w L pl) (ht : RT w k t ux uc)  :
    Calls Tryz.prog 56 #[c, scV pv pl, tV t ux uc, vp] w fun e w' => e = .returned (.tuple #[.int .i64 0, .bool true]) ∧ Ext w w' := by
  have HV := Lib.hid hV; have HL := Lib.hid hL
  have hmx : Tryz.prog.follows .mixedOrders = true := by kernel_rfl
  obtain ⟨qv, rfl⟩ := hV.form
  obtain ⟨ql, rfl⟩ := hL.form
  obtain ⟨_, ⟨Aa, ca, rfl, -, -⟩, ⟨Bb, cb, rfl, -, -⟩⟩ := ht.form
  clear hV hL ht
  have HE := Lib.hid (Ext.al2 w (.cells #[.pointer qv, .pointer ql] 81) (.cells #[.int .i64 t.op, .int .i64 t.n, .string t.nm, .int .i64 t.ty, .slice Aa t.args.length ca, .slice Bb t.cls.length cb] 41))
  obtain ⟨hb1, hb2⟩ := box_st w (.pointer qv) (.pointer ql) (.int .i64 t.op) (.int .i64 t.n) (.string t.nm) (.int .i64 t.ty) (.slice Aa t.args.length ca) (.slice Bb t.cls.length cb)
  have HB1 := Lib.hid hb1; have HB2 := Lib.hid hb2
  clear hb1 hb2
  go_enter Tryz.func56, Tryz.ntmps56
  go_wp2
  go_ret2
  exact ⟨rfl, HE.out⟩

set_option maxHeartbeats 2000000 in
set_option maxRecDepth 100000 in
theorem r_primitive (c : Value) (V L : Env) (pv pl : Value) (k : Nat) (t : Tm) (ux uc : Value) (vp : Value) (p0 p1 : Int) (l : List Int) (w : World) (hV : RB w V pv) (hL : RB w L pl) (ht : RT w k t ux uc) (hp : RInts w vp (p0 :: p1 :: l)) :
    Calls Tryz.prog 57 #[c, scV pv pl, tV t ux uc, vp] w fun e w' => e = .returned (.tuple #[.int .i64 0, .bool (decide (p0 = 0) && decide (p1 = 0))]) ∧ Ext w w' := by
  have HV := Lib.hid hV; have HL := Lib.hid hL
  have hmx : Tryz.prog.follows .mixedOrders = true := by kernel_rfl
  obtain ⟨qv, rfl⟩ := hV.form
  obtain ⟨ql, rfl⟩ := hL.form
  obtain ⟨_, ⟨Aa, ca, rfl, -, -⟩, ⟨Bb, cb, rfl, -, -⟩⟩ := ht.form
  clear hV hL ht
  have HE := Lib.hid (Ext.al2 w (.cells #[.pointer qv, .pointer ql] 81) (.cells #[.int .i64 t.op, .int .i64 t.n, .string t.nm, .int .i64 t.ty, .slice Aa t.args.length ca, .slice Bb t.cls.length cb] 41))
  obtain ⟨hb1, hb2⟩ := box_st w (.pointer qv) (.pointer ql) (.int .i64 t.op) (.int .i64 t.n) (.string t.nm) (.int .i64 t.ty) (.slice Aa t.args.length ca) (.slice Bb t.cls.length cb)
  have HB1 := Lib.hid hb1; have HB2 := Lib.hid hb2
  clear hb1 hb2
  have HP := Lib.hid hp
  obtain ⟨Ap, cp, rfl, -, -⟩ := hp.form
  obtain ⟨bp, op, rfl, -, f0⟩ := hp.at_ (k := 0) (by simp)
  obtain ⟨bq1, oq1, e1, -, f1⟩ := hp.at_ (k := 1) (by simp)
  cases e1
  simp only [Nat.add_zero, List.getElem_cons_zero, List.getElem_cons_succ] at f0 f1
  have HF0 := Lib.hid (HE.out.keep f0)
  have HF1 := Lib.hid (HE.out.keep f1)
  clear hp f0 f1
  have hl0 : 0 < (p0 :: p1 :: l).length := by simp
  have hl1 : 1 < (p0 :: p1 :: l).length := by simp
  generalize (p0 :: p1 :: l).length = n at *
  go_enter Tryz.func57, Tryz.ntmps57
  cases h0 : decide (p0 = 0)
  · have q0 : (p0 == 0) = false := by simpa using h0
    have H0 := Lib.hid h0
    clear h0
    go_wp2
    generalize World.alloc (World.alloc w _) _ = w1 at *
    have c0 := ExtOf.cell HF0.out
    have c1 := ExtOf.cell HF1.out
    refine wp_region_ext (w0 := w1) hmx (by kernel_rfl) (Ext.rf _) ?_
    repeat (first | go_big_quiet_step (fail) | quiet_step (fail))
    refine wpQuiet_nil ?_
    rintro _ ⟨⟨w9, hx⟩, rfl⟩
    have HX9 := Lib.hid (HE.out.tr hx)
    clear hx
    go_wp2
    go_ret2
    exact ⟨rfl, HX9.out⟩
  · have q0 : (p0 == 0) = true := by simpa using h0
    have H0 := Lib.hid h0
    clear h0
    cases h1 : decide (p1 = 0)
    · have q1 : (p1 == 0) = false := by simpa using h1
      have H1 := Lib.hid h1
      clear h1
      go_wp2
      generalize World.alloc (World.alloc w _) _ = w1 at *
      have c0 := ExtOf.cell HF0.out
      have c1 := ExtOf.cell HF1.out
      refine wp_region_ext (w0 := w1) hmx (by kernel_rfl) (Ext.rf _) ?_
      repeat (first | go_big_quiet_step (fail) | quiet_step (fail))
      refine wpQuiet_nil ?_
      rintro _ ⟨⟨w9, hx⟩, rfl⟩
      have HX9 := Lib.hid (HE.out.tr hx)
      clear hx
      go_wp2
      go_ret2
      exact ⟨rfl, HX9.out⟩
    · have q1 : (p1 == 0) = true := by simpa using h1
      have H1 := Lib.hid h1
      clear h1
      go_wp2
      generalize World.alloc (World.alloc w _) _ = w1 at *
      have c0 := ExtOf.cell HF0.out
      have c1 := ExtOf.cell HF1.out
      refine wp_region_ext (w0 := w1) hmx (by kernel_rfl) (Ext.rf _) ?_
      repeat (first | go_big_quiet_step (fail) | quiet_step (fail))
      refine wpQuiet_nil ?_
      rintro _ ⟨⟨w9, hx⟩, rfl⟩
      have HX9 := Lib.hid (HE.out.tr hx)
      clear hx
      go_wp2
      go_ret2
      exact ⟨rfl, HX9.out⟩
end Go.Proofs.YtogmjgccopmplaaGreat

/- rules.go: signatures; slices.Equal, SameInts, Producers. -/
namespace Go.Proofs.YtogmjgccopmplaaGreat
open Go.RowKit

/-- A row of integers that the call owns. -/
abbrev OwnL (w : World) (B : Nat) (v : Value) (l : List Int) : Prop := w.ownsRow B 3 1 v l.length (l.map (Value.int .i64))
theorem eqL_cons (a b : Int) (l m : List Int) : eqL (a :: l) (b :: m) = (decide (a = b) && eqL l m) := rfl
theorem eqL_len : ∀ (a b : List Int), ¬ a.length = b.length → eqL a b = false
  | [], [], h => by simp at h
  | [], _ :: _, _ => rfl
  | _ :: _, [], _ => rfl
  | x :: a, y :: b, h => by rw [eqL_cons, eqL_len a b (by simpa using h), Bool.and_false]
theorem own_shapeL {w : World} {B e size n : Nat} {v : Value} {xs : List Value} (h : w.ownsRow B e size v n xs) : ∃ A c, v = .slice A n c := by
  rcases h.2 with ⟨rfl, rfl⟩ | ⟨g, cap, _, hv, _⟩
  · exact ⟨none, 0, rfl⟩
  · exact ⟨_, cap, hv⟩
set_option maxHeartbeats 2000000 in
set_option maxRecDepth 100000 in
theorem equal_ints_any (v v' : Value) (a b : List Int) (w : World) (h : RInts w v a) (h' : RInts w v' b) :
    Calls Tryz.prog 125 #[v, v'] w fun e w' => e = .returned (.bool (eqL a b)) ∧ Ext w w' := by
  have HR := Lib.hid h
  have HR' := Lib.hid h'
  have hmx : Tryz.prog.follows .mixedOrders = true := by kernel_rfl
  obtain ⟨A, c, rfl, hc, hm⟩ := h.form
  obtain ⟨A', c', rfl, hc', hm'⟩ := h'.form
  clear h h'
  unfold maxLen at hm hm'
  go_enter Tryz.func125, Tryz.ntmps125
  by_cases hl : a.length = b.length
  · have HL := Lib.hid hl
    have hlt' : ((a.length : Int) == b.length) = true := by simp [hl]
    have hlt2 : ((a.length : Int) != b.length) = false := by simp [hl]
    have hle : a.length ≤ b.length := by omega
    clear hl
    go_wp2
    go_loopw [13] (fun i wr => ∃ k : Nat, k ≤ a.length ∧ i = .int .i64 k ∧ Ext w wr ∧ eqL a b = eqL (a.drop k) (b.drop k)) (fun i _ => a.length - (intOf i).toNat)
    case atStart => exact ⟨0, Nat.zero_le _, rfl, Ext.rf _, rfl⟩
    case round =>
      obtain ⟨k, hk, rfl, hb, hno⟩ := hrel
      have HN := Lib.hid hno; have HB := Lib.hid hb
      clear hno hb
      by_cases hlt : k < a.length
      · obtain ⟨b1, o1, rfl, hbl1, g0⟩ := HR.out.at_ hlt
        obtain ⟨b2, o2, rfl, hbl2, f0⟩ := HR'.out.at_ (k := k) (by omega)
        have g0 := ExtOf.cell (HB.out.keep g0)
        have f0 := ExtOf.cell (HB.out.keep f0)
        have HD := Lib.hid (drop_step hlt)
        have HD' := Lib.hid (drop_step (l := b) (k := k) (by omega))
        generalize a[k] = x at *
        generalize b[k] = y at *
        have hk2 : k < b.length := by omega
        by_cases hxy : x = y
        · have hq : (x != y) = false := by simp [hxy]
          have HQ : Hid (decide (x = y) = true) := decide_eq_true hxy
          clear hxy
          go_wp2
          refine wp_region_ext (w0 := wr) hmx (by kernel_rfl) (Ext.rf _) ?_
          repeat (first | go_big_quiet_step (fail) | quiet_step (fail))
          refine wpQuiet_nil ?_
          rintro _ ⟨⟨w9, hx⟩, rfl⟩
          have HX9 := Lib.hid (HB.out.tr hx)
          clear hx
          go_wp2
          go_roundw
          case rel => exact ⟨k + 1, by omega, by go_num, HX9.out, by rw [HN.out, HD.out, HD'.out, eqL_cons, HQ.out]; rfl⟩
          case measure => simp [intOf]; omega
        · have hq : (x != y) = true := by simp [hxy]
          have HQ : Hid (decide (x = y) = false) := decide_eq_false hxy
          clear hxy
          go_wp2
          refine wp_region_ext (w0 := wr) hmx (by kernel_rfl) (Ext.rf _) ?_
          repeat (first | go_big_quiet_step (fail) | quiet_step (fail))
          refine wpQuiet_nil ?_
          rintro _ ⟨⟨w9, hx⟩, rfl⟩
          have HX9 := Lib.hid (HB.out.tr hx)
          clear hx
          go_wp2
          go_ret
          exact ⟨ret_bool (by rw [HN.out, HD.out, HD'.out, eqL_cons, HQ.out]; rfl), HX9.out⟩
      · go_wp2
        go_ret
        have hlb : ¬ k < b.length := by have := HL.out; omega
        exact ⟨ret_bool (by rw [HN.out, drop_end hlt, drop_end hlb]; rfl), HB.out⟩
  · have hlt' : ((a.length : Int) == b.length) = false := by simp; omega
    have hlt2 : ((a.length : Int) != b.length) = true := by simp; omega
    have HQ := Lib.hid (eqL_len a b hl)
    go_wp2
    go_ret
    exact ⟨ret_bool HQ.out.symm, Ext.rf _⟩
set_option maxHeartbeats 2000000 in
set_option maxRecDepth 100000 in
theorem same_ints_any (v v' : Value) (a b : List Int) (w : World) (h : RInts w v a) (h' : RInts w v' b) :
    Calls Tryz.prog 13 #[v, v'] w fun e w' => e = .returned (.bool (eqL a b)) ∧ Ext w w' := by
  have HR := Lib.hid h
  have HR' := Lib.hid h'
  have hmx : Tryz.prog.follows .mixedOrders = true := by kernel_rfl
  obtain ⟨A, c, rfl, hc, hm⟩ := h.form
  obtain ⟨A', c', rfl, hc', hm'⟩ := h'.form
  clear h h'
  unfold maxLen at hm hm'
  go_enter Tryz.func13, Tryz.ntmps13
  by_cases hl : a.length = b.length
  · have HL := Lib.hid hl
    have hlt' : ((a.length : Int) == b.length) = true := by simp [hl]
    have hlt2 : ((a.length : Int) != b.length) = false := by simp [hl]
    have hle : a.length ≤ b.length := by omega
    clear hl
    go_wp2
    go_loopw [13] (fun i wr => ∃ k : Nat, k ≤ a.length ∧ i = .int .i64 k ∧ Ext w wr ∧ eqL a b = eqL (a.drop k) (b.drop k)) (fun i _ => a.length - (intOf i).toNat)
    case atStart => exact ⟨0, Nat.zero_le _, rfl, Ext.rf _, rfl⟩
    case round =>
      obtain ⟨k, hk, rfl, hb, hno⟩ := hrel
      have HN := Lib.hid hno; have HB := Lib.hid hb
      clear hno hb
      by_cases hlt : k < a.length
      · obtain ⟨b1, o1, rfl, hbl1, g0⟩ := HR.out.at_ hlt
        obtain ⟨b2, o2, rfl, hbl2, f0⟩ := HR'.out.at_ (k := k) (by omega)
        have g0 := ExtOf.cell (HB.out.keep g0)
        have f0 := ExtOf.cell (HB.out.keep f0)
        have HD := Lib.hid (drop_step hlt)
        have HD' := Lib.hid (drop_step (l := b) (k := k) (by omega))
        generalize a[k] = x at *
        generalize b[k] = y at *
        have hk2 : k < b.length := by omega
        by_cases hxy : x = y
        · have hq : (x != y) = false := by simp [hxy]
          have HQ : Hid (decide (x = y) = true) := decide_eq_true hxy
          clear hxy
          go_wp2
          refine wp_region_ext (w0 := wr) hmx (by kernel_rfl) (Ext.rf _) ?_
          repeat (first | go_big_quiet_step (fail) | quiet_step (fail))
          refine wpQuiet_nil ?_
          rintro _ ⟨⟨w9, hx⟩, rfl⟩
          have HX9 := Lib.hid (HB.out.tr hx)
          clear hx
          go_wp2
          go_roundw
          case rel => exact ⟨k + 1, by omega, by go_num, HX9.out, by rw [HN.out, HD.out, HD'.out, eqL_cons, HQ.out]; rfl⟩
          case measure => simp [intOf]; omega
        · have hq : (x != y) = true := by simp [hxy]
          have HQ : Hid (decide (x = y) = false) := decide_eq_false hxy
          clear hxy
          go_wp2
          refine wp_region_ext (w0 := wr) hmx (by kernel_rfl) (Ext.rf _) ?_
          repeat (first | go_big_quiet_step (fail) | quiet_step (fail))
          refine wpQuiet_nil ?_
          rintro _ ⟨⟨w9, hx⟩, rfl⟩
          have HX9 := Lib.hid (HB.out.tr hx)
          clear hx
          go_wp2
          go_ret
          exact ⟨ret_bool (by rw [HN.out, HD.out, HD'.out, eqL_cons, HQ.out]; rfl), HX9.out⟩
      · go_wp2
        go_ret
        have hlb : ¬ k < b.length := by have := HL.out; omega
        exact ⟨ret_bool (by rw [HN.out, drop_end hlt, drop_end hlb]; rfl), HB.out⟩
  · have hlt' : ((a.length : Int) == b.length) = false := by simp; omega
    have hlt2 : ((a.length : Int) != b.length) = true := by simp; omega
    have HQ := Lib.hid (eqL_len a b hl)
    go_wp2
    go_ret
    exact ⟨ret_bool HQ.out.symm, Ext.rf _⟩
end Go.Proofs.YtogmjgccopmplaaGreat

/- rules.go: the checker in memory; apply. -/
namespace Go.Proofs.YtogmjgccopmplaaGreat
open Go.RowKit

structure Sg where
  args : List Int
  res : Int
def sgF (f : Fn) : Sg := ⟨f.ps.map Prm.ty, f.res⟩
def sgX (d : Decl) (ty : Int) (x : Xtor) : Sg := if d.codata then ⟨prodL x ++ [ty], lastT x⟩ else ⟨prodL x, ty⟩
def RSgs (w : World) (v : Value) (l : List Sg) : Prop :=
  ∃ A c, v = .slice A l.length c ∧ l.length ≤ c ∧ c ≤ maxLen ∧
    ∀ i g, l[i]? = some g → ∃ b o va, A = some ⟨b, o, none⟩ ∧ w.cell? ⟨b, o + i * 2, none⟩ = some va ∧ w.cell? ⟨b, o + i * 2 + 1, none⟩ = some (.int .i64 g.res) ∧ RInts w va g.args
def RSgL (w : World) (v : Value) (l : List (List Sg)) : Prop :=
  ∃ A c, v = .slice A l.length c ∧ l.length ≤ c ∧ c ≤ maxLen ∧
    ∀ i g, l[i]? = some g → ∃ b o va, A = some ⟨b, o, none⟩ ∧ w.cell? ⟨b, o + i, none⟩ = some va ∧ RSgs w va g
section
variable {w w' : World} {v : Value}
theorem RSgs.below {l : List Sg} (h : RSgs w v l) (hb : Ext w w') : RSgs w' v l := by
  obtain ⟨A, c, rfl, h1, h2, h3⟩ := h
  refine ⟨A, c, rfl, h1, h2, fun i g hi => ?_⟩
  obtain ⟨b, o, va, e, c0, c1, hr⟩ := h3 i g hi
  exact ⟨b, o, va, e, hb.keep c0, hb.keep c1, hr.below hb⟩
theorem RSgL.below {l : List (List Sg)} (h : RSgL w v l) (hb : Ext w w') : RSgL w' v l := by
  obtain ⟨A, c, rfl, h1, h2, h3⟩ := h
  refine ⟨A, c, rfl, h1, h2, fun i g hi => ?_⟩
  obtain ⟨b, o, va, e, c0, hr⟩ := h3 i g hi
  exact ⟨b, o, va, e, hb.keep c0, hr.below hb⟩
theorem RSgs.form {l : List Sg} (h : RSgs w v l) : ∃ A c, v = .slice A l.length c ∧ l.length ≤ c ∧ c ≤ maxLen := by
  obtain ⟨A, c, h1, h2, h3, _⟩ := h; exact ⟨A, c, h1, h2, h3⟩
theorem RSgL.form {l : List (List Sg)} (h : RSgL w v l) : ∃ A c, v = .slice A l.length c ∧ l.length ≤ c ∧ c ≤ maxLen := by
  obtain ⟨A, c, h1, h2, h3, _⟩ := h; exact ⟨A, c, h1, h2, h3⟩
theorem RSgs.at_ {l : List Sg} {A : Option Addr} {n c : Nat} (h : RSgs w (.slice A n c) l) {i : Nat} {g : Sg} (hi : l[i]? = some g) :
    ∃ b o va, A = some ⟨b, o, none⟩ ∧ w.cell? ⟨b, o + i * 2, none⟩ = some va ∧ w.cell? ⟨b, o + i * 2 + 1, none⟩ = some (.int .i64 g.res) ∧ RInts w va g.args := by
  obtain ⟨A', c', he, h1, h2, h3⟩ := h
  cases he
  exact h3 i g hi
theorem RSgL.at_ {l : List (List Sg)} {A : Option Addr} {n c : Nat} (h : RSgL w (.slice A n c) l) {i : Nat} {g : List Sg} (hi : l[i]? = some g) :
    ∃ b o va, A = some ⟨b, o, none⟩ ∧ w.cell? ⟨b, o + i, none⟩ = some va ∧ RSgs w va g := by
  obtain ⟨A', c', he, h1, h2, h3⟩ := h
  cases he
  exact h3 i g hi
end
def xsFrom : Nat → List Decl → List (List Sg)
  | _, [] => []
  | u, d :: r => d.xtors.map (sgX d (u + 1)) :: xsFrom (u + 1) r
def xsP (P : Pg) : List (List Sg) := [] :: xsFrom 0 P.decls
theorem xsFrom_at : ∀ (l : List Decl) (u i : Nat) (d : Decl), l[i]? = some d → (xsFrom u l)[i]? = some (d.xtors.map (sgX d ((u + i : Nat) + 1)))
  | [], _, _, _, h => by simp at h
  | e :: r, u, 0, d, h => by simp at h; subst h; simp [xsFrom]
  | e :: r, u, i + 1, d, h => by
    simp only [List.getElem?_cons_succ] at h
    rw [xsFrom, List.getElem?_cons_succ, xsFrom_at r (u + 1) i d h, show u + 1 + i = u + (i + 1) by omega]
theorem xsFrom_len : ∀ (l : List Decl) (u : Nat), (xsFrom u l).length = l.length
  | [], _ => rfl
  | _ :: r, u => by simp [xsFrom, xsFrom_len r]
theorem xsP_len (P : Pg) : (xsP P).length = P.decls.length + 1 := by simp [xsP, xsFrom_len]
theorem xsP_at {P : Pg} {u : Nat} {d : Decl} (h : P.decls[u]? = some d) : (xsP P)[u + 1]? = some (d.xtors.map (sgX d (u + 1))) := by
  have := xsFrom_at P.decls 0 u d h
  rw [Nat.zero_add] at this
  exact this
/-- The checker, without its rules. -/
structure RCk (w : World) (g : Nat) (P : Pg) : Prop where
  funs : ∃ vf, w.cell? ⟨g, 0, none⟩ = some vf ∧ RSgs w vf (P.funs.map sgF)
  xtors : ∃ vx, w.cell? ⟨g, 1, none⟩ = some vx ∧ RSgL w vx (xsP P)
theorem RCk.below {w w' : World} {g : Nat} {P : Pg} (h : RCk w g P) (hb : Ext w w') : RCk w' g P :=
  ⟨h.funs.elim fun vf ⟨h1, h2⟩ => ⟨vf, hb.keep h1, h2.below hb⟩, h.xtors.elim fun vf ⟨h1, h2⟩ => ⟨vf, hb.keep h1, h2.below hb⟩⟩

set_option maxHeartbeats 2000000 in
set_option maxRecDepth 100000 in
theorem apply_any (va vp : Value) (g : Sg) (ps : List Int) (w : World) (h : RInts w va g.args) (hp : RInts w vp ps) :
    Calls Tryz.prog 96 #[.agg #[va, .int .i64 g.res], vp] w fun e w' => e = .returned (.tuple #[.int .i64 g.res, .bool (eqL ps g.args)]) ∧ Ext w w' := by
  have H := Lib.hid h; have HP := Lib.hid hp
  have hmx : Tryz.prog.follows .mixedOrders = true := by kernel_rfl
  obtain ⟨A, c, rfl, -, -⟩ := h.form
  obtain ⟨A', c', rfl, -, -⟩ := hp.form
  clear h hp
  have HE := Lib.hid (Ext.al w (.cells #[.slice A g.args.length c, .int .i64 g.res] 107))
  have HB := Lib.hid (heapNew w (.cells #[.slice A g.args.length c, .int .i64 g.res] 107))
  go_enter Tryz.func96, Tryz.ntmps96
  go_upto_region 1 with fail
  generalize World.alloc w _ = w1 at *
  have k0 := ExtOf.cell (cellAt HB.out 0)
  have k1 := ExtOf.cell (cellAt HB.out 1)
  refine wp_region_ext (w0 := w1) hmx (by kernel_rfl) (Ext.rf _) ?_
  repeat (first | go_big_quiet_step ((go_at_call 125; with_reducible exact Calls.ext_of (equal_ints_any _ _ ps g.args _ ((HP.out.below HE.out).below (ExtOf.ext _)) ((H.out.below HE.out).below (ExtOf.ext _))))) | quiet_step ((go_at_call 125; with_reducible exact Calls.ext_of (equal_ints_any _ _ ps g.args _ ((HP.out.below HE.out).below (ExtOf.ext _)) ((H.out.below HE.out).below (ExtOf.ext _))))))
  refine wpQuiet_nil ?_
  rintro _ ⟨⟨w9, hx⟩, rfl⟩
  have HX9 := Lib.hid (HE.out.tr hx)
  clear hx k0 k1
  go_wp2
  go_ret2
  exact ⟨rfl, HX9.out⟩
end Go.Proofs.YtogmjgccopmplaaGreat
