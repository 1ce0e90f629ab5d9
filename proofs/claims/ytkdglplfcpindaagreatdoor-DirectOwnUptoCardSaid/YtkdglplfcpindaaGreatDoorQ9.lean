/- The machine of direct evaluation as plain data. -/
import Derived.Test.YtkdglplfcpindaaGreatDoorQ8
import Derived.Deep.LoopGhost
import Derived.Lib.Hide
import Derived.WalkKit
namespace Go.Proofs.YtkdglplfcpindaaGreatDoor

mutual
inductive Vl where
  | int (n : Int)
  | con (ty n : Int) (args : List It)
  | obj (t : Tm) (e : En)
inductive It where
  | held (v : Vl)
  | thunk (t : Tm) (e : En)
inductive En where
  | mk (vs : List (Str × It)) (ls : List (Str × List Fr))
inductive Fr where
  | left (t : Tm) (e : En)
  | right (t : Tm) (e : En) (a : Int)
  | zero (t : Tm) (e : En)
  | emit (t : Tm) (e : En)
  | ana (t : Tm) (e : En)
  | obs (t : Tm) (e : En) (args : List It)
  | bind (terms : List Tm) (types : List Int) (bound : List It) (t : Tm) (e : En)
end
abbrev Kt := List Fr
namespace En
def vs : En → List (Str × It) | mk a _ => a
def ls : En → List (Str × Kt) | mk _ b => b
end En
inductive Tk where
  | ev (t : Tm) (e : En) (k : Kt)
  | pass (v : Vl) (k : Kt)
/-- What a task leaves: another one, or the end. -/
inductive Nx where
  | go (s : Tk)
  | stop (how val : Int)

def findA {α : Type} : List (Str × α) → Str → Option α
  | [], _ => none
  | (s, y) :: r, x => if s.toList == x.toList then some y else findA r x
def withA {α : Type} : List Str → List α → List (Str × α) → List (Str × α)
  | s :: r, y :: q, V => withA r q ((s, y) :: V)
  | _, _, V => V
def noTm : Tm := .mk 0 0 ⟨#[]⟩ 0 [] []
def bindV (e : En) (ns : List Str) (b : List It) : En := .mk (withA ns b e.vs) e.ls
def markL (e : En) (s : Str) (k : Kt) : En := .mk e.vs ((s, k) :: e.ls)
def bodyS (f : Fn) (b : List It) (k : Kt) : Tk := .ev f.body (.mk (withA (f.ps.map Prm.nm) b []) []) k
def afterS (P : Pg) (t : Tm) (e : En) (k : Kt) (b : List It) : Tk :=
  if t.op = 4 then .pass (.con t.ty t.n b) k
  else if t.op = 6 then .ev (t.args.getD (t.args.length - 1) noTm) e (.obs t e b :: k)
  else if t.op = 8 then .ev (t.args.getD 1 noTm) (bindV e [t.nm] b) k
  else bodyS (fnAt P t.n) b k
/-- The types whose terms are bound without being evaluated. -/
def lazyB (P : Pg) (y : Int) : Bool := !(decide (y = 0) || !(declAt P y).codata)
def resS (P : Pg) (t : Tm) (e : En) (k : Kt) : List Tm → List Int → List It → Tk
  | a :: r, y :: q, b => if lazyB P y then resS P t e k r q (b ++ [.thunk a e]) else .ev a e (.bind (a :: r) (y :: q) b t e :: k)
  | _, _, b => afterS P t e k b
def termsOf (t : Tm) : List Tm := if t.op = 6 then t.args.take (t.args.length - 1) else if t.op = 8 then t.args.take 1 else t.args
def typesOf (P : Pg) (t : Tm) : List Int :=
  if t.op = 8 then [t.ty] else if t.op = 9 then (fnAt P t.n).ps.map Prm.ty else prodL (xtorAt P t.ty t.n)
def itemS (x : It) (k : Kt) : Tk := match x with | .held v => .pass v k | .thunk t e => .ev t e k
def evS (P : Pg) (t : Tm) (e : En) (k : Kt) : Nx :=
  if t.op = 0 then (match findA e.vs t.nm with | some x => .go (itemS x k) | none => .stop 2 0)
  else if t.op = 1 then .go (.pass (.int t.n) k)
  else if t.op = 2 then .go (.ev (t.args.getD 0 noTm) e (.left t e :: k))
  else if t.op = 3 then .go (.ev (t.args.getD 0 noTm) e (.zero t e :: k))
  else if t.op = 5 then .go (.ev (t.args.getD 0 noTm) e (.ana t e :: k))
  else if t.op = 7 then .go (.pass (.obj t e) k)
  else if t.op = 10 then .go (.ev (t.args.getD 0 noTm) e (.emit t e :: k))
  else if t.op = 11 then .go (.ev (t.args.getD 0 noTm) (markL e t.nm k) k)
  else if t.op = 12 then (match findA e.ls t.nm with | some k' => .go (.ev (t.args.getD 0 noTm) e k') | none => .stop 2 0)
  else .go (resS P t e k (termsOf t) (typesOf P t) [])
def wr64 (n : Int) : Int := (n + 9223372036854775808) % 18446744073709551616 - 9223372036854775808
def quotP (a b : Int) : Int := if b = 0 then 0 else wr64 (a.tdiv b)
def primR (op a b : Int) : Int :=
  if op = 0 then wr64 (a + b)
  else if op = 1 then wr64 (a - b)
  else if op = 2 then wr64 (a * b)
  else if op = 3 then quotP a b
  else if op = 4 then wr64 (a - wr64 (b * quotP a b))
  else if op = 5 then (if a = b then 1 else 0)
  else (if a < b then 1 else 0)
/-- A continuation receives a value; what it emits is told, too. -/
def recS (P : Pg) (v : Vl) : Kt → Nx × List Int
  | [] => match v with | .int n => (.stop 0 n, []) | _ => (.stop 2 0, [])
  | .left t e :: k => match v with | .int n => (.go (.ev (t.args.getD 1 noTm) e (.right t e n :: k)), []) | _ => (.stop 2 0, [])
  | .right t _ a :: k => match v with | .int n => (.go (.pass (.int (primR t.n a n)) k), []) | _ => (.stop 2 0, [])
  | .zero t e :: k => match v with | .int n => (.go (.ev (t.args.getD (if n = 0 then 1 else 2) noTm) e k), []) | _ => (.stop 2 0, [])
  | .emit t e :: k => match v with | .int n => (.go (.ev (t.args.getD 1 noTm) e k), [n]) | _ => (.stop 2 0, [])
  | .ana t e :: k => match v with
    | .con ty n args => if ty = t.ty then (.go (.ev (t.cls.getD n.toNat ([], noTm)).2 (bindV e (t.cls.getD n.toNat ([], noTm)).1 args) k), []) else (.stop 2 0, [])
    | _ => (.stop 2 0, [])
  | .obs t _ args :: k => match v with
    | .obj u e => if u.ty = t.ty then (.go (.ev (u.cls.getD t.n.toNat ([], noTm)).2 (bindV e (u.cls.getD t.n.toNat ([], noTm)).1 args) k), []) else (.stop 2 0, [])
    | _ => (.stop 2 0, [])
  | .bind ts ys b t e :: k => (.go (resS P t e k ts.tail ys.tail (b ++ [.held v])), [])

/-- A state of the machine: the steps, what was emitted, the task. -/
structure St where
  steps : Nat
  outs : List Int
  task : Tk
structure Rn where
  stop : Int
  val : Int
  outs : List Int
  steps : Nat
def doS (P : Pg) (fuel : Nat) (s : St) : Rn ⊕ St :=
  match s.task with
  | .ev t e k => if s.steps = fuel then .inl ⟨1, 0, s.outs, s.steps⟩ else (match evS P t e k with
    | .go q => .inr ⟨s.steps + 1, s.outs, q⟩
    | .stop how val => .inl ⟨how, val, s.outs, s.steps + 1⟩)
  | .pass v k => (match recS P v k with
    | (.go q, o) => .inr ⟨s.steps, s.outs ++ o, q⟩
    | (.stop how val, o) => .inl ⟨how, val, s.outs ++ o, s.steps⟩)
/-- The run after at most that many tasks. -/
def runS (P : Pg) (fuel : Nat) : Nat → St → Option Rn
  | 0, _ => none
  | n + 1, s => match doS P fuel s with
    | .inl r => some r
    | .inr s' => runS P fuel n s'
def startS (P : Pg) (inputs : List Int) : St := ⟨0, [], bodyS (fnAt P 0) (inputs.map fun n => .held (.int n)) []⟩

/-! ### every run ends -/
def rankT : Tk → Nat | .ev _ _ _ => 0 | .pass _ k => k.length + 1
def isEv : Tk → Prop | .ev _ _ _ => True | .pass _ _ => False
theorem afterS_rank (P : Pg) (t : Tm) (e : En) (k : Kt) (b : List It) : rankT (afterS P t e k b) ≤ k.length + 1 := by
  unfold afterS bodyS
  split <;> (try split) <;> (try split) <;> simp [rankT]
theorem resS_rank (P : Pg) (t : Tm) (e : En) (k : Kt) : ∀ (l : List Tm) (q : List Int) (b : List It), rankT (resS P t e k l q b) ≤ k.length + 1
  | [], q, b => by simp only [resS]; exact afterS_rank P t e k b
  | a :: r, [], b => by simp only [resS]; exact afterS_rank P t e k b
  | a :: r, y :: q, b => by
    simp only [resS]
    split
    · exact resS_rank P t e k r q _
    · simp [rankT]
theorem recS_rank (P : Pg) (v : Vl) (k : Kt) (q : Tk) (o : List Int) (h : recS P v k = (.go q, o)) : rankT q < k.length + 1 := by
  cases k with
  | nil => cases v <;> simp [recS] at h
  | cons f k =>
    cases f with
    | bind ts ys b t e =>
      simp only [recS, Prod.mk.injEq, Nx.go.injEq] at h
      obtain ⟨rfl, -⟩ := h
      have := resS_rank P t e k ts.tail ys.tail (b ++ [.held v])
      simp only [List.length_cons]; omega
    | right t e a => cases v <;> simp [recS] at h; obtain ⟨rfl, -⟩ := h; simp [rankT]
    | left t e => cases v <;> simp [recS] at h; obtain ⟨rfl, -⟩ := h; simp [rankT]
    | zero t e => cases v <;> simp [recS] at h; obtain ⟨rfl, -⟩ := h; simp [rankT]
    | emit t e => cases v <;> simp [recS] at h; obtain ⟨rfl, -⟩ := h; simp [rankT]
    | ana t e =>
      cases v <;> simp only [recS] at h
      · simp at h
      · split at h <;> simp at h; obtain ⟨rfl, -⟩ := h; simp [rankT]
      · simp at h
    | obs t e a =>
      cases v <;> simp only [recS] at h
      · simp at h
      · simp at h
      · split at h <;> simp at h; obtain ⟨rfl, -⟩ := h; simp [rankT]
theorem runS_ends (P : Pg) (fuel : Nat) : ∀ (m r : Nat) (s : St), s.steps ≤ fuel → fuel - s.steps ≤ m → rankT s.task ≤ r → ∃ n x, runS P fuel n s = some x := by
  intro m
  induction m with
  | zero =>
    intro r
    induction r with
    | zero =>
      intro s h0 h1 h2
      obtain ⟨st, o, tk⟩ := s
      cases tk with
      | ev t e k => exact ⟨1, ⟨1, 0, o, st⟩, by simp only [runS, doS]; rw [if_pos (by simp at h0 h1; omega)]⟩
      | pass v k => simp [rankT] at h2
    | succ r ih =>
      intro s h0 h1 h2
      obtain ⟨st, o, tk⟩ := s
      cases tk with
      | ev t e k => exact ⟨1, ⟨1, 0, o, st⟩, by simp only [runS, doS]; rw [if_pos (by simp at h0 h1; omega)]⟩
      | pass v k =>
        obtain ⟨nx, o'⟩ : ∃ z, recS P v k = z := ⟨_, rfl⟩
        cases hz : recS P v k with
        | mk a b =>
          cases a with
          | stop how val => exact ⟨1, ⟨how, val, o ++ b, st⟩, by simp only [runS, doS, hz]⟩
          | go q =>
            have hr := recS_rank P v k q b hz
            simp only [rankT] at h2
            obtain ⟨n, x, hx⟩ := ih ⟨st, o ++ b, q⟩ h0 h1 (by show rankT q ≤ r; omega)
            exact ⟨n + 1, x, by simp only [runS, doS, hz]; exact hx⟩
  | succ m ihm =>
    intro r
    induction r with
    | zero =>
      intro s h0 h1 h2
      obtain ⟨st, o, tk⟩ := s
      cases tk with
      | ev t e k =>
        by_cases hf : st = fuel
        · exact ⟨1, ⟨1, 0, o, st⟩, by simp only [runS, doS]; rw [if_pos hf]⟩
        · cases hz : evS P t e k with
          | stop how val => exact ⟨1, ⟨how, val, o, st + 1⟩, by simp only [runS, doS, hz]; rw [if_neg hf]⟩
          | go q =>
            obtain ⟨n, x, hx⟩ := ihm (rankT q) ⟨st + 1, o, q⟩ (by show st + 1 ≤ fuel; have : st ≤ fuel := h0; omega) (by show fuel - (st + 1) ≤ m; have : fuel - st ≤ m + 1 := h1; omega) (Nat.le_refl _)
            exact ⟨n + 1, x, by simp only [runS, doS, hz]; rw [if_neg hf]; exact hx⟩
      | pass v k => simp [rankT] at h2
    | succ r ih =>
      intro s h0 h1 h2
      obtain ⟨st, o, tk⟩ := s
      cases tk with
      | ev t e k => exact ih ⟨st, o, .ev t e k⟩ h0 h1 (Nat.zero_le _)
      | pass v k =>
        cases hz : recS P v k with
        | mk a b =>
          cases a with
          | stop how val => exact ⟨1, ⟨how, val, o ++ b, st⟩, by simp only [runS, doS, hz]⟩
          | go q =>
            have hr := recS_rank P v k q b hz
            simp only [rankT] at h2
            obtain ⟨n, x, hx⟩ := ih ⟨st, o ++ b, q⟩ h0 h1 (by show rankT q ≤ r; omega)
            exact ⟨n + 1, x, by simp only [runS, doS, hz]; exact hx⟩
theorem runS_more (P : Pg) (fuel : Nat) : ∀ (n : Nat) (s : St) (x : Rn), runS P fuel n s = some x → ∀ m, n ≤ m → runS P fuel m s = some x
  | 0, _, _, h, _, _ => by cases h
  | n + 1, s, x, h, 0, hm => by omega
  | n + 1, s, x, h, m + 1, hm => by
    simp only [runS] at h ⊢
    cases hd : doS P fuel s with
    | inl r => rw [hd] at h; exact h
    | inr s' => rw [hd] at h; exact runS_more P fuel n s' x h m (by omega)
/-- The run from a state on. -/
def RunsTo (P : Pg) (fuel : Nat) (s : St) (x : Rn) : Prop := ∃ n, runS P fuel n s = some x
theorem RunsTo.one {P : Pg} {fuel : Nat} {s : St} {x y : Rn} (h : RunsTo P fuel s x) (k : RunsTo P fuel s y) : x = y := by
  obtain ⟨n, hn⟩ := h; obtain ⟨m, hm⟩ := k
  have a := runS_more P fuel n s x hn (max n m) (Nat.le_max_left ..)
  have b := runS_more P fuel m s y hm (max n m) (Nat.le_max_right ..)
  rw [a] at b; exact Option.some.inj b
theorem RunsTo.ex (P : Pg) (fuel : Nat) (inputs : List Int) : ∃ x, RunsTo P fuel (startS P inputs) x := by
  obtain ⟨n, x, h⟩ := runS_ends P fuel fuel (rankT (startS P inputs).task) (startS P inputs) (Nat.zero_le _) (by simp [startS]) (Nat.le_refl _)
  exact ⟨x, n, h⟩
end Go.Proofs.YtkdglplfcpindaaGreatDoor

/- How the machine's values, environments and continuations lie in memory: programs in w0, from before the run; what the run makes, in blocks that stay. -/
namespace Go.Proofs.YtkdglplfcpindaaGreatDoor
open Go.RowKit

/-- A term among those that were there. -/
def RTx (w0 : World) (t : Tm) (va vc : Value) : Prop := ∃ k, RT w0 k t va vc
/-- Terms in a row of them, from some place on. -/
def RTs (w0 : World) (v : Value) (l : List Tm) : Prop :=
  ∃ A c, v = .slice A l.length c ∧ l.length ≤ c ∧ c ≤ maxLen ∧
    ∀ i x, l[i]? = some x → ∃ b o xa xc, A = some ⟨b, o, none⟩ ∧ b < w0.heap.size ∧ C6 w0 b (o + i * 6) x xa xc ∧ RTx w0 x xa xc
abbrev clV (t : Tm) (va vc pv pl : Value) : Array Value := #[.int .i64 t.op, .int .i64 t.n, .string t.nm, .int .i64 t.ty, va, vc, pv, pl]
abbrev evV (t : Tm) (va vc pv pl kv : Value) : Array Value := #[.int .i64 t.op, .int .i64 t.n, .string t.nm, .int .i64 t.ty, va, vc, pv, pl, kv]
abbrev evW (t : Tm) (va vc pv pl kv x : Value) : Array Value := #[.int .i64 t.op, .int .i64 t.n, .string t.nm, .int .i64 t.ty, va, vc, pv, pl, kv, x]
/-- A row of integers in a block that stays. -/
def RIs (w : World) (bad : Nat → Prop) (v : Value) (l : List Int) : Prop :=
  ∃ A c, v = .slice A l.length c ∧ l.length ≤ c ∧ c ≤ maxLen ∧ ∀ i x, l[i]? = some x → ∃ b o, A = some ⟨b, o, none⟩ ∧ ¬ bad b ∧ w.cell? ⟨b, o + i, none⟩ = some (.int .i64 x)
/-- The function's cells. -/
def FnAt (w0 : World) (f : Fn) (vp xa xc : Value) : Prop := f.nm.size ≤ maxLen ∧ RPrms w0 vp f.ps ∧ RTx w0 f.body xa xc
/-- What a function value for the rest of a binding has captured. -/
inductive ThV (P : Pg) (w0 w : World) (bad : Nat → Prop) (mb : Nat) (ev : Array Value) (t : Tm) : Value → Prop
  | con (be : Nat) (h0 : t.op = 4) (h1 : ¬ bad be) (h2 : w.heap[be]? = some (.cells ev 161 (0, 0))) :
    ThV P w0 w bad mb ev t (.func (.func 204) #[] #[.pointer (some ⟨be, 0, none⟩)])
  | obs (be bl : Nat) (h0 : t.op = 6) (h1 : ¬ bad be) (h2 : w.heap[be]? = some (.cells ev 161 (0, 0))) (h3 : ¬ bad bl)
    (h4 : w.heap[bl]? = some (.cells #[.int .i64 ((t.args.length - 1 : Nat) : Int)] 3 (0, 0))) :
    ThV P w0 w bad mb ev t (.func (.func 205) #[] #[.pointer (some ⟨be, 0, none⟩), .pointer (some ⟨bl, 0, none⟩)])
  | lt (be : Nat) (h0 : t.op = 8) (h1 : ¬ bad be) (h2 : w.heap[be]? = some (.cells ev 161 (0, 0))) :
    ThV P w0 w bad mb ev t (.func (.func 206) #[] #[.pointer (some ⟨be, 0, none⟩)])
  | call (bm bf be : Nat) (vp xa xc : Value) (h0 : t.op = 9) (h1 : ¬ bad be) (h2 : w.heap[be]? = some (.cells ev 161 (0, 0)))
    (h3 : ¬ bad bm) (h4 : w.heap[bm]? = some (.cells #[.pointer (some ⟨mb, 0, none⟩)] 55 (0, 0)))
    (h5 : ¬ bad bf) (h6 : w.heap[bf]? = some (.cells #[.string (fnAt P t.n).nm, vp, .int .i64 (fnAt P t.n).res, .int .i64 (fnAt P t.n).body.op, .int .i64 (fnAt P t.n).body.n, .string (fnAt P t.n).body.nm, .int .i64 (fnAt P t.n).body.ty, xa, xc] 52 (0, 0)))
    (h7 : FnAt w0 (fnAt P t.n) vp xa xc) :
    ThV P w0 w bad mb ev t (.func (.func 202) #[] #[.pointer (some ⟨bm, 0, none⟩), .pointer (some ⟨bf, 0, none⟩), .pointer (some ⟨be, 0, none⟩)])

inductive DX where
  | v (a : Value) (x : Vl)
  | i (a : Value) (x : It)
  | vs (a : Value) (l : List (Str × It))
  | ls (a : Value) (l : List (Str × Kt))
  | k (a : Value) (l : Kt)
  | is (a : Value) (l : List It)

inductive D5 (P : Pg) (w0 w : World) (bad : Nat → Prop) (mb : Nat) : DX → Prop
  | int (n : Int) (h : ok64 n) : D5 P w0 w bad mb (.v (.iface 92 (.int .i64 n)) (.int n))
  | con (ty n : Int) (a : Value) (l : List It) (h1 : ok64 ty) (h2 : ok64 n) (h3 : D5 P w0 w bad mb (.is a l)) :
    D5 P w0 w bad mb (.v (.iface 303 (.agg #[.int .i64 ty, .int .i64 n, a])) (.con ty n l))
  | obj (t : Tm) (e : En) (va vc pv pl : Value) (h1 : RTx w0 t va vc) (h2 : D5 P w0 w bad mb (.vs pv e.vs)) (h3 : D5 P w0 w bad mb (.ls pl e.ls)) :
    D5 P w0 w bad mb (.v (.iface 297 (.agg (clV t va vc pv pl))) (.obj t e))
  | held (a : Value) (x : Vl) (h : D5 P w0 w bad mb (.v a x)) : D5 P w0 w bad mb (.i (.iface 96 (.agg #[a])) (.held x))
  | thunk (t : Tm) (e : En) (va vc pv pl : Value) (h1 : RTx w0 t va vc) (h2 : D5 P w0 w bad mb (.vs pv e.vs)) (h3 : D5 P w0 w bad mb (.ls pl e.ls)) :
    D5 P w0 w bad mb (.i (.iface 309 (.agg (clV t va vc pv pl))) (.thunk t e))
  | vnil : D5 P w0 w bad mb (.vs (.pointer none) [])
  | vcons (b : Nat) (s : Str) (a p : Value) (x : It) (l : List (Str × It)) (h0 : s.size ≤ maxLen) (h1 : ¬ bad b) (h2 : w.heap[b]? = some (.cells #[.string s, a, p] 235 (0, 0)))
    (h3 : D5 P w0 w bad mb (.i a x)) (h4 : D5 P w0 w bad mb (.vs p l)) : D5 P w0 w bad mb (.vs (.pointer (some ⟨b, 0, none⟩)) ((s, x) :: l))
  | lnil : D5 P w0 w bad mb (.ls (.pointer none) [])
  | lcons (b : Nat) (s : Str) (a p : Value) (x : Kt) (l : List (Str × Kt)) (h0 : s.size ≤ maxLen) (h1 : ¬ bad b) (h2 : w.heap[b]? = some (.cells #[.string s, a, p] 287 (0, 0)))
    (h3 : D5 P w0 w bad mb (.k a x)) (h4 : D5 P w0 w bad mb (.ls p l)) : D5 P w0 w bad mb (.ls (.pointer (some ⟨b, 0, none⟩)) ((s, x) :: l))
  | inil : D5 P w0 w bad mb (.is (.slice none 0 0) [])
  | icons (b o c : Nat) (a : Nat → Value) (l : List It) (h0 : l.length ≤ c) (h1 : c ≤ maxLen) (h2 : l ≠ [] → ¬ bad b) (h3 : ∀ i, i < l.length → w.cell? ⟨b, o + i, none⟩ = some (a i))
    (h4 : ∀ i x, l[i]? = some x → D5 P w0 w bad mb (.i (a i) x)) : D5 P w0 w bad mb (.is (.slice (some ⟨b, o, none⟩) l.length c) l)
  | fin : D5 P w0 w bad mb (.k (.iface 103 (.agg #[])) [])
  | left (t : Tm) (e : En) (va vc pv pl kv : Value) (k : Kt) (h1 : RTx w0 t va vc) (h2 : D5 P w0 w bad mb (.vs pv e.vs)) (h3 : D5 P w0 w bad mb (.ls pl e.ls)) (h4 : D5 P w0 w bad mb (.k kv k)) :
    D5 P w0 w bad mb (.k (.iface 293 (.agg (evV t va vc pv pl kv))) (.left t e :: k))
  | right (t : Tm) (e : En) (n : Int) (va vc pv pl kv : Value) (k : Kt) (h0 : ok64 n) (h1 : RTx w0 t va vc) (h2 : D5 P w0 w bad mb (.vs pv e.vs)) (h3 : D5 P w0 w bad mb (.ls pl e.ls)) (h4 : D5 P w0 w bad mb (.k kv k)) :
    D5 P w0 w bad mb (.k (.iface 313 (.agg (evW t va vc pv pl kv (.int .i64 n)))) (.right t e n :: k))
  | zero (t : Tm) (e : En) (va vc pv pl kv : Value) (k : Kt) (h1 : RTx w0 t va vc) (h2 : D5 P w0 w bad mb (.vs pv e.vs)) (h3 : D5 P w0 w bad mb (.ls pl e.ls)) (h4 : D5 P w0 w bad mb (.k kv k)) :
    D5 P w0 w bad mb (.k (.iface 294 (.agg (evV t va vc pv pl kv))) (.zero t e :: k))
  | emit (t : Tm) (e : En) (va vc pv pl kv : Value) (k : Kt) (h1 : RTx w0 t va vc) (h2 : D5 P w0 w bad mb (.vs pv e.vs)) (h3 : D5 P w0 w bad mb (.ls pl e.ls)) (h4 : D5 P w0 w bad mb (.k kv k)) :
    D5 P w0 w bad mb (.k (.iface 298 (.agg (evV t va vc pv pl kv))) (.emit t e :: k))
  | ana (t : Tm) (e : En) (va vc pv pl kv : Value) (k : Kt) (h1 : RTx w0 t va vc) (h2 : D5 P w0 w bad mb (.vs pv e.vs)) (h3 : D5 P w0 w bad mb (.ls pl e.ls)) (h4 : D5 P w0 w bad mb (.k kv k)) :
    D5 P w0 w bad mb (.k (.iface 295 (.agg (evV t va vc pv pl kv))) (.ana t e :: k))
  | obs (t : Tm) (e : En) (va vc pv pl kv a : Value) (l : List It) (k : Kt) (h1 : RTx w0 t va vc) (h2 : D5 P w0 w bad mb (.vs pv e.vs)) (h3 : D5 P w0 w bad mb (.ls pl e.ls)) (h4 : D5 P w0 w bad mb (.k kv k)) (h5 : D5 P w0 w bad mb (.is a l)) :
    D5 P w0 w bad mb (.k (.iface 305 (.agg (evW t va vc pv pl kv a))) (.obs t e l :: k))
  | bind (t : Tm) (e : En) (va vc pv pl kv a vt vy fv : Value) (ts : List Tm) (ys : List Int) (l : List It) (k : Kt) (h1 : RTx w0 t va vc) (h2 : D5 P w0 w bad mb (.vs pv e.vs)) (h3 : D5 P w0 w bad mb (.ls pl e.ls)) (h4 : D5 P w0 w bad mb (.k kv k))
    (h5 : D5 P w0 w bad mb (.is a l)) (h6 : RTs w0 vt ts) (h7 : RIs w bad vy ys) (h8 : ThV P w0 w bad mb (evV t va vc pv pl kv) t fv) :
    D5 P w0 w bad mb (.k (.iface 307 (.agg #[vt, vy, pv, pl, a, fv])) (.bind ts ys l t e :: k))

/-- What stays: every block that doesn't turn is as it was, and none of them turns from now on. -/
structure Kp (bad bad' : Nat → Prop) (w w' : World) : Prop where
  size : w.heap.size ≤ w'.heap.size
  keep : ∀ b, b < w.heap.size → ¬ bad b → ¬ bad' b ∧ w'.heap[b]? = w.heap[b]?
theorem heap_ltW {w : World} {b : Nat} {o : Obj} (h : w.heap[b]? = some o) : b < w.heap.size := (Array.getElem?_eq_some_iff.1 h).1
theorem Kp.rf (bad : Nat → Prop) (w : World) : Kp bad bad w w := ⟨Nat.le_refl _, fun _ _ h => ⟨h, rfl⟩⟩
theorem Kp.tr {b1 b2 b3 : Nat → Prop} {w1 w2 w3 : World} (h : Kp b1 b2 w1 w2) (k : Kp b2 b3 w2 w3) : Kp b1 b3 w1 w3 :=
  ⟨Nat.le_trans h.size k.size, fun b hb hn => ⟨(k.keep b (Nat.lt_of_lt_of_le hb h.size) (h.keep b hb hn).1).1, ((k.keep b (Nat.lt_of_lt_of_le hb h.size) (h.keep b hb hn).1).2).trans (h.keep b hb hn).2⟩⟩
theorem Kp.of_ext {bad : Nat → Prop} {w w' : World} (h : Ext w w') : Kp bad bad w w' := ⟨h.size, fun b hb hn => ⟨hn, h.block b hb⟩⟩
section
variable {P : Pg} {w0 w w' : World} {bad bad' : Nat → Prop} {mb : Nat}
theorem Kp.blk (h : Kp bad bad' w w') {b : Nat} {o : Obj} (hn : ¬ bad b) (hb : w.heap[b]? = some o) : ¬ bad' b ∧ w'.heap[b]? = some o :=
  ⟨(h.keep b (heap_ltW hb) hn).1, ((h.keep b (heap_ltW hb) hn).2).trans hb⟩
theorem Kp.cell (h : Kp bad bad' w w') {b o : Nat} {v : Value} (hn : ¬ bad b) (hv : w.cell? ⟨b, o, none⟩ = some v) : ¬ bad' b ∧ w'.cell? ⟨b, o, none⟩ = some v := by
  have hlt : b < w.heap.size := cell_lt hv
  exact ⟨(h.keep b hlt hn).1, (World.cell?_of_block (w := w) (h.keep b hlt hn).2).trans hv⟩
theorem RIs.kp {v : Value} {l : List Int} (h : Kp bad bad' w w') (r : RIs w bad v l) : RIs w' bad' v l := by
  obtain ⟨A, c, e, h1, h2, h3⟩ := r
  refine ⟨A, c, e, h1, h2, fun i x hi => ?_⟩
  obtain ⟨b, o, e1, h4, h5⟩ := h3 i x hi
  exact ⟨b, o, e1, (h.cell h4 h5).1, (h.cell h4 h5).2⟩
theorem ThV.kp {ev : Array Value} {t : Tm} {v : Value} (h : Kp bad bad' w w') (r : ThV P w0 w bad mb ev t v) : ThV P w0 w' bad' mb ev t v := by
  cases r with
  | con be h0 h1 h2 => exact .con be h0 (h.blk h1 h2).1 (h.blk h1 h2).2
  | obs be bl h0 h1 h2 h3 h4 => exact .obs be bl h0 (h.blk h1 h2).1 (h.blk h1 h2).2 (h.blk h3 h4).1 (h.blk h3 h4).2
  | lt be h0 h1 h2 => exact .lt be h0 (h.blk h1 h2).1 (h.blk h1 h2).2
  | call bm bf be vp xa xc h0 h1 h2 h3 h4 h5 h6 h7 => exact .call bm bf be vp xa xc h0 (h.blk h1 h2).1 (h.blk h1 h2).2 (h.blk h3 h4).1 (h.blk h3 h4).2 (h.blk h5 h6).1 (h.blk h5 h6).2 h7
theorem D5.kp {x : DX} (h : Kp bad bad' w w') (r : D5 P w0 w bad mb x) : D5 P w0 w' bad' mb x := by
  induction r with
  | int n h1 => exact .int n h1
  | con ty n a l h1 h2 _ ih => exact .con ty n a l h1 h2 ih
  | obj t e va vc pv pl h1 _ _ i2 i3 => exact .obj t e va vc pv pl h1 i2 i3
  | held a x _ ih => exact .held a x ih
  | thunk t e va vc pv pl h1 _ _ i2 i3 => exact .thunk t e va vc pv pl h1 i2 i3
  | vnil => exact .vnil
  | vcons b s a p x l h0 h1 h2 _ _ i3 i4 => exact .vcons b s a p x l h0 (h.blk h1 h2).1 (h.blk h1 h2).2 i3 i4
  | lnil => exact .lnil
  | lcons b s a p x l h0 h1 h2 _ _ i3 i4 => exact .lcons b s a p x l h0 (h.blk h1 h2).1 (h.blk h1 h2).2 i3 i4
  | inil => exact .inil
  | icons b o c a l h0 h1 h2 h3 _ ih =>
    cases l with
    | nil =>
      -- an empty part of a row
      exact .icons b o c a [] h0 h1 (fun hn => absurd rfl hn) (fun i hi => by simp at hi) ih
    | cons y r => exact .icons b o c a (y :: r) h0 h1 (fun hn => (h.cell (h2 hn) (h3 0 (by simp))).1) (fun i hi => (h.cell (h2 (by simp)) (h3 i hi)).2) ih
  | fin => exact .fin
  | left t e va vc pv pl kv k h1 _ _ _ i2 i3 i4 => exact .left t e va vc pv pl kv k h1 i2 i3 i4
  | right t e n va vc pv pl kv k h0 h1 _ _ _ i2 i3 i4 => exact .right t e n va vc pv pl kv k h0 h1 i2 i3 i4
  | zero t e va vc pv pl kv k h1 _ _ _ i2 i3 i4 => exact .zero t e va vc pv pl kv k h1 i2 i3 i4
  | emit t e va vc pv pl kv k h1 _ _ _ i2 i3 i4 => exact .emit t e va vc pv pl kv k h1 i2 i3 i4
  | ana t e va vc pv pl kv k h1 _ _ _ i2 i3 i4 => exact .ana t e va vc pv pl kv k h1 i2 i3 i4
  | obs t e va vc pv pl kv a l k h1 _ _ _ _ i2 i3 i4 i5 => exact .obs t e va vc pv pl kv a l k h1 i2 i3 i4 i5
  | bind t e va vc pv pl kv a vt vy fv ts ys l k h1 _ _ _ _ h6 h7 h8 i2 i3 i4 i5 => exact .bind t e va vc pv pl kv a vt vy fv ts ys l k h1 i2 i3 i4 i5 h6 (RIs.kp h h7) (ThV.kp h h8)
end
end Go.Proofs.YtkdglplfcpindaaGreatDoor

/- env.go: find, of both environments. -/
namespace Go.Proofs.YtkdglplfcpindaaGreatDoor
open Go.RowKit

section
variable {P : Pg} {w0 w : World} {bad : Nat → Prop} {mb : Nat}
theorem D5.vs_nil {v : Value} (h : D5 P w0 w bad mb (.vs v [])) : v = .pointer none := by cases h; rfl
theorem D5.ls_nil {v : Value} (h : D5 P w0 w bad mb (.ls v [])) : v = .pointer none := by cases h; rfl
theorem D5.vs_cons {v : Value} {s : Str} {x : It} {l : List (Str × It)} (h : D5 P w0 w bad mb (.vs v ((s, x) :: l))) : ∃ b a p, v = .pointer (some ⟨b, 0, none⟩) ∧ s.size ≤ maxLen ∧ ¬ bad b ∧ w.heap[b]? = some (.cells #[.string s, a, p] 235 (0, 0)) ∧ D5 P w0 w bad mb (.i a x) ∧ D5 P w0 w bad mb (.vs p l) := by
  cases h with
  | vcons b _ a p _ _ h0 h1 h2 h3 h4 => exact ⟨b, a, p, rfl, h0, h1, h2, h3, h4⟩
theorem D5.ls_cons {v : Value} {s : Str} {x : Kt} {l : List (Str × Kt)} (h : D5 P w0 w bad mb (.ls v ((s, x) :: l))) : ∃ b a p, v = .pointer (some ⟨b, 0, none⟩) ∧ s.size ≤ maxLen ∧ ¬ bad b ∧ w.heap[b]? = some (.cells #[.string s, a, p] 287 (0, 0)) ∧ D5 P w0 w bad mb (.k a x) ∧ D5 P w0 w bad mb (.ls p l) := by
  cases h with
  | lcons b _ a p _ _ h0 h1 h2 h3 h4 => exact ⟨b, a, p, rfl, h0, h1, h2, h3, h4⟩
theorem D5.vs_form {v : Value} {l : List (Str × It)} (h : D5 P w0 w bad mb (.vs v l)) : ∃ p, v = .pointer p := by
  cases l with
  | nil => exact ⟨_, h.vs_nil⟩
  | cons a l => obtain ⟨b, a, p, rfl, -⟩ := D5.vs_cons (s := a.1) (x := a.2) h; exact ⟨_, rfl⟩
theorem D5.ls_form {v : Value} {l : List (Str × Kt)} (h : D5 P w0 w bad mb (.ls v l)) : ∃ p, v = .pointer p := by
  cases l with
  | nil => exact ⟨_, h.ls_nil⟩
  | cons a l => obtain ⟨b, a, p, rfl, -⟩ := D5.ls_cons (s := a.1) (x := a.2) h; exact ⟨_, rfl⟩
theorem D5.v_form {v : Value} {x : Vl} (h : D5 P w0 w bad mb (.v v x)) : ∃ t u, v = .iface t u := by cases h <;> exact ⟨_, _, rfl⟩
theorem D5.i_form {v : Value} {x : It} (h : D5 P w0 w bad mb (.i v x)) : ∃ t u, v = .iface t u := by cases h <;> exact ⟨_, _, rfl⟩
theorem D5.k_form {v : Value} {x : Kt} (h : D5 P w0 w bad mb (.k v x)) : ∃ t u, v = .iface t u := by cases h <;> exact ⟨_, _, rfl⟩
theorem D5.is_form {v : Value} {l : List It} (h : D5 P w0 w bad mb (.is v l)) : ∃ A c, v = .slice A l.length c ∧ l.length ≤ c ∧ c ≤ maxLen := by
  cases h with
  | inil => exact ⟨none, 0, rfl, Nat.le_refl _, Nat.zero_le _⟩
  | icons b o c a _ h0 h1 h2 h3 h4 => exact ⟨_, c, rfl, h0, h1⟩
end

set_option maxHeartbeats 1000000 in
set_option maxRecDepth 100000 in
theorem findI_any (P : Pg) (w0 w : World) (bad : Nat → Prop) (mb : Nat) (l : List (Str × It)) (v : Value) (s : Str) (x : It) (h : D5 P w0 w bad mb (.vs v l)) (hx : findA l s = some x) :
    Calls Tryz.prog 191 #[v, .string s] w fun e w' => (∃ a, e = .returned a ∧ D5 P w0 w bad mb (.i a x)) ∧ w = w' := by
  have H := Lib.hid h
  have HX := Lib.hid hx
  obtain ⟨p, rfl⟩ := h.vs_form
  clear h hx
  go_enter Tryz.func191, Tryz.ntmps191
  go_wp2
  go_loopg [0] l.length (fun k b wr => ∃ r : List (Str × It), w = wr ∧ r.length ≤ k ∧ D5 P w0 w bad mb (.vs b r) ∧ findA r s = some x)
  case atStart => exact ⟨l, rfl, Nat.le_refl _, H.out, HX.out⟩
  case round =>
    obtain ⟨r, rfl, hk, hb, hr⟩ := hrel
    have HN := Lib.hid hr
    cases r with
    | nil => exact absurd hr (by simp [findA])
    | cons a r =>
      obtain ⟨y, z⟩ := a
      clear hr
      obtain ⟨b, a, u, rfl, h0, -, hblk, hi, hrest⟩ := hb.vs_cons
      obtain ⟨q, rfl⟩ := hrest.vs_form
      have HI := Lib.hid hi
      have HRB := Lib.hid hrest
      have c0 := cellAt hblk 0
      have c1 := cellAt hblk 1
      have c2 := cellAt hblk 2
      clear hrest hb hi hblk
      cases hq : (y.toList == s.toList)
      · have HQ := Lib.hid hq
        go_wp2
        go_roundg r.length
        case measure => simp at hk; omega
        case rel => exact ⟨r, rfl, Nat.le_refl _, HRB.out, by have := HN.out; rw [findA, HQ.out] at this; exact this⟩
      · have HQ := Lib.hid hq
        go_wp2
        go_ret
        exact ⟨⟨_, rfl, by have := HN.out; rw [findA, HQ.out] at this; simp at this; exact this ▸ HI.out⟩, rfl⟩
set_option maxHeartbeats 1000000 in
set_option maxRecDepth 100000 in
theorem findL_any (P : Pg) (w0 w : World) (bad : Nat → Prop) (mb : Nat) (l : List (Str × Kt)) (v : Value) (s : Str) (x : Kt) (h : D5 P w0 w bad mb (.ls v l)) (hx : findA l s = some x) :
    Calls Tryz.prog 192 #[v, .string s] w fun e w' => (∃ a, e = .returned a ∧ D5 P w0 w bad mb (.k a x)) ∧ w = w' := by
  have H := Lib.hid h
  have HX := Lib.hid hx
  obtain ⟨p, rfl⟩ := h.ls_form
  clear h hx
  go_enter Tryz.func192, Tryz.ntmps192
  go_wp2
  go_loopg [0] l.length (fun k b wr => ∃ r : List (Str × Kt), w = wr ∧ r.length ≤ k ∧ D5 P w0 w bad mb (.ls b r) ∧ findA r s = some x)
  case atStart => exact ⟨l, rfl, Nat.le_refl _, H.out, HX.out⟩
  case round =>
    obtain ⟨r, rfl, hk, hb, hr⟩ := hrel
    have HN := Lib.hid hr
    cases r with
    | nil => exact absurd hr (by simp [findA])
    | cons a r =>
      obtain ⟨y, z⟩ := a
      clear hr
      obtain ⟨b, a, u, rfl, h0, -, hblk, hi, hrest⟩ := hb.ls_cons
      obtain ⟨q, rfl⟩ := hrest.ls_form
      have HI := Lib.hid hi
      have HRB := Lib.hid hrest
      have c0 := cellAt hblk 0
      have c1 := cellAt hblk 1
      have c2 := cellAt hblk 2
      clear hrest hb hi hblk
      cases hq : (y.toList == s.toList)
      · have HQ := Lib.hid hq
        go_wp2
        go_roundg r.length
        case measure => simp at hk; omega
        case rel => exact ⟨r, rfl, Nat.le_refl _, HRB.out, by have := HN.out; rw [findA, HQ.out] at this; exact this⟩
      · have HQ := Lib.hid hq
        go_wp2
        go_ret
        exact ⟨⟨_, rfl, by have := HN.out; rw [findA, HQ.out] at this; simp at this; exact this ▸ HI.out⟩, rfl⟩
end Go.Proofs.YtkdglplfcpindaaGreatDoor

/- env.go: with, bind, mark. -/
namespace Go.Proofs.YtkdglplfcpindaaGreatDoor
open Go.RowKit

theorem withA_step {α : Type} : ∀ (ns : List Str) (args : List α) (l : List (Str × α)) (k : Nat) (h : k < ns.length) (h2 : k < args.length), withA (ns.take (k + 1)) args l = (ns[k], args[k]) :: withA (ns.take k) args l
  | s :: r, y :: q, l, 0, _, _ => by cases r <;> cases q <;> simp [withA]
  | s :: r, y :: q, l, k + 1, h, h2 => by
    simp only [List.take_succ_cons, withA, List.getElem_cons_succ]
    exact withA_step r q ((s, y) :: l) k (by simpa using h) (by simpa using h2)
/-- What turns lies among what there is. -/
def NB (bad : Nat → Prop) (w : World) : Prop := ∀ b, bad b → b < w.heap.size
theorem NB.new {bad : Nat → Prop} {w : World} (h : NB bad w) : ¬ bad w.heap.size := fun hb => Nat.lt_irrefl _ (h _ hb)
theorem NB.ext {bad : Nat → Prop} {w w' : World} (h : NB bad w) (hb : Ext w w') : NB bad w' := fun b k => Nat.lt_of_lt_of_le (h b k) hb.size
section
variable {P : Pg} {w0 w w' : World} {bad : Nat → Prop} {mb : Nat}
theorem D5.ext {x : DX} (h : D5 P w0 w bad mb x) (hb : Ext w w') : D5 P w0 w' bad mb x := h.kp (Kp.of_ext hb)
theorem D5.is_at {v : Value} {l : List It} {i : Nat} {x : It} (h : D5 P w0 w bad mb (.is v l)) (hi : l[i]? = some x) : ∃ b o c a, v = .slice (some ⟨b, o, none⟩) l.length c ∧ w.cell? ⟨b, o + i, none⟩ = some a ∧ D5 P w0 w bad mb (.i a x) := by
  cases h with
  | inil => simp at hi
  | icons b o c a _ h0 h1 h2 h3 h4 => exact ⟨b, o, c, a i, rfl, h3 i (List.getElem?_eq_some_iff.1 hi).1, h4 i x hi⟩
end

set_option maxHeartbeats 1000000 in
set_option maxRecDepth 100000 in
theorem withI_any (P : Pg) (w0 w : World) (bad : Nat → Prop) (mb : Nat) (ns : List Str) (args : List It) (l : List (Str × It)) (v v1 v2 : Value) (h : D5 P w0 w bad mb (.vs v l)) (h1 : RStrs w v1 ns) (h2 : D5 P w0 w bad mb (.is v2 args)) (hlen : ns.length ≤ args.length) (hB : NB bad w) :
    Calls Tryz.prog 110 #[v, v1, v2] w fun e w' => (∃ a, e = .returned a ∧ D5 P w0 w' bad mb (.vs a (withA ns args l))) ∧ Ext w w' := by
  have H := Lib.hid h
  have H1 := Lib.hid h1
  have H2 := Lib.hid h2
  have HB := Lib.hid hB
  obtain ⟨p, rfl⟩ := h.vs_form
  obtain ⟨A1, c1, rfl, hc1, hm1⟩ := h1.form
  obtain ⟨A2, c2, rfl, hc2, hm2⟩ := h2.is_form
  unfold maxLen at hm1 hm2
  clear h h1 h2 hB
  go_enter Tryz.func110, Tryz.ntmps110
  go_wp2
  go_loopg [0, 11] ns.length (fun k c i wr => ∃ j : Nat, j ≤ ns.length ∧ ns.length - j ≤ k ∧ i = .int .i64 j ∧ D5 P w0 wr bad mb (.vs c (withA (ns.take j) args l)) ∧ Ext w wr)
  case atStart => exact ⟨0, by omega, by omega, rfl, by simpa [withA] using H.out, Ext.rf _⟩
  case round =>
    obtain ⟨j, hj, hk, rfl, hc, hx⟩ := hrel
    have HC := Lib.hid hc
    have HX := Lib.hid hx
    obtain ⟨q, rfl⟩ := hc.vs_form
    clear hc hx
    by_cases hlt : j < ns.length
    · have hlt2 : j < args.length := by omega
      obtain ⟨A', c', e1, -, -, hs⟩ := H1.out.below HX.out
      obtain ⟨b1, o1, e2, -, hs1, hs2⟩ := hs j ns[j] (List.getElem?_eq_getElem hlt)
      obtain ⟨b2, o2, c3, a, e3, ha1, ha2⟩ := (H2.out.ext HX.out).is_at (List.getElem?_eq_getElem hlt2)
      subst e2
      simp only [Value.slice.injEq] at e1 e3
      obtain ⟨rfl, -, -⟩ := e1
      obtain ⟨rfl, -, -⟩ := e3
      obtain ⟨ta, ua, rfl⟩ := ha2.i_form
      have HS := Lib.hid hs2
      have HA := Lib.hid ha2
      have HW := Lib.hid (withA_step ns args l j hlt hlt2)
      have HN := Lib.hid (heapNew wr (.cells #[.string ns[j], .iface ta ua, .pointer q] 235))
      have HE := Lib.hid (Ext.al wr (.cells #[.string ns[j], .iface ta ua, .pointer q] 235))
      clear hs2 ha2 hs
      generalize ns[j] = s at *
      generalize args[j] = x at *
      go_wp2
      go_roundg (ns.length - (j + 1))
      case measure => omega
      case rel => exact ⟨j + 1, by omega, by omega, by go_num, by rw [HW.out]; exact .vcons _ s (.iface ta ua) _ x _ HS.out (HB.out.ext HX.out).new HN.out (HA.out.ext HE.out) (HC.out.ext HE.out), HX.out.tr HE.out⟩
    · have hjj : ns.take j = ns := List.take_of_length_le (by omega)
      have HJ := Lib.hid hjj
      clear hjj
      go_wp2
      go_ret
      exact ⟨⟨_, rfl, by have := HC.out; rw [HJ.out] at this; exact this⟩, HX.out⟩

/-- One label more. -/
theorem withL_any (P : Pg) (w0 w : World) (bad : Nat → Prop) (mb : Nat) (s : Str) (x : Kt) (l : List (Str × Kt)) (v kv : Value) (b1 b2 : Nat) (h : D5 P w0 w bad mb (.ls v l)) (h1 : w.cell? ⟨b1, 0, none⟩ = some (.string s)) (h2 : w.cell? ⟨b2, 0, none⟩ = some kv) (h3 : D5 P w0 w bad mb (.k kv x)) (hs : s.size ≤ maxLen) (hB : NB bad w) :
    Calls Tryz.prog 193 #[v, .slice (some ⟨b1, 0, none⟩) 1 1, .slice (some ⟨b2, 0, none⟩) 1 1] w fun e w' => (∃ a, e = .returned a ∧ D5 P w0 w' bad mb (.ls a ((s, x) :: l))) ∧ Ext w w' := by
  have H := Lib.hid h
  have H3 := Lib.hid h3
  have HB := Lib.hid hB
  have HS := Lib.hid hs
  obtain ⟨p, rfl⟩ := h.ls_form
  obtain ⟨tk, uk, rfl⟩ := h3.k_form
  have HN := Lib.hid (heapNew w (.cells #[.string s, .iface tk uk, .pointer p] 287))
  have HE := Lib.hid (Ext.al w (.cells #[.string s, .iface tk uk, .pointer p] 287))
  clear h h3 hB hs
  go_enter Tryz.func193, Tryz.ntmps193
  go_wp2
  go_loopg [0, 11] 1 (fun k c i wr => (i = .int .i64 0 ∧ 1 ≤ k ∧ c = .pointer p ∧ w = wr) ∨ (i = .int .i64 1 ∧ D5 P w0 wr bad mb (.ls c ((s, x) :: l)) ∧ Ext w wr))
  case atStart => exact .inl ⟨rfl, Nat.le_refl _, rfl, rfl⟩
  case round =>
    rcases hrel with ⟨rfl, hk, rfl, rfl⟩ | ⟨rfl, hd, hx⟩
    · go_wp2
      go_roundg 0
      case measure => omega
      case rel => exact .inr ⟨rfl, .lcons _ s (.iface tk uk) _ x _ HS.out HB.out.new HN.out (H3.out.ext HE.out) (H.out.ext HE.out), HE.out⟩
    · have HD := Lib.hid hd
      have HX := Lib.hid hx
      obtain ⟨q, rfl⟩ := hd.ls_form
      clear hd hx
      go_wp2
      go_ret
      exact ⟨⟨_, rfl, HD.out⟩, HX.out⟩
end Go.Proofs.YtkdglplfcpindaaGreatDoor
