import Derived.Test.YtkdglplfcpindaaGreatDoorQ1
import Derived.RangeFuncKeeps
import Derived.RangeFuncLeaves
import Derived.RangeFuncCalls
import Derived.Shelf.Abstract
import Derived.WalkKit
import Derived.OwnWalkIn
import Derived.TacticsInMore
import Derived.Lib.Hide
import Derived.Maps.Own
import Derived.Maps.OwnSet
import Derived.StringKeys
import Derived.Outline
import Derived.Deep.QuietTactic
import Derived.BigQuiet
set_option maxRecDepth 100000
namespace Go.Proofs.YtkdglplfcpindaaGreatDoor
open Go.RowKit
structure Only (C : Nat -> Prop) (W W' : World) : Prop where
  os : W'.os = W.os
  tape : W'.tape = W.tape
  output : W'.output = W.output
  size : W.heap.size <= W'.heap.size
  block : ∀ k, k < W.heap.size -> ¬ C k -> W'.heap[k]? = W.heap[k]?
section
variable {C D : Nat -> Prop} {a b c : World}
theorem Only.rf (C : Nat -> Prop) (w : World) : Only C w w := ⟨rfl, rfl, rfl, Nat.le_refl _, fun _ _ _ => rfl⟩
theorem Only.tr (h : Only C a b) (k : Only C b c) : Only C a c :=
  ⟨k.os.trans h.os, k.tape.trans h.tape, k.output.trans h.output, Nat.le_trans h.size k.size, fun i hi hn => (k.block i (Nat.lt_of_lt_of_le hi h.size) hn).trans (h.block i hi hn)⟩
theorem Only.mono (h : Only C a b) (hc : ∀ k, k < a.heap.size -> C k -> D k) : Only D a b :=
  ⟨h.os, h.tape, h.output, h.size, fun k hk hn => h.block k hk (fun hC => hn (hc k hk hC))⟩
theorem Only.of_ext (h : Below a.heap.size a b) : Only C a b := ⟨h.os, h.tape, h.output, h.size, fun k hk _ => h.block k hk⟩
theorem Only.below {B : Nat} (h : Only C a b) (hB : B <= a.heap.size) (hC : ∀ k, C k -> B <= k) : Below B a b :=
  ⟨h.os, h.tape, h.output, h.size, fun k hk => h.block k (by omega) (fun hc => by have := hC k hc; omega)⟩
theorem Only.putObj {l : Nat} (h : C l) (w : World) (o : Obj) : Only C w (w.putObj l o) :=
  ⟨rfl, rfl, rfl, by simp, fun k _ hn => World.putObj_heap_other (fun e => hn (e ▸ h))⟩
theorem Only.setCell {p : Addr} (h : C p.block) (w : World) (u : Value) : Only C w (w.setCell p u) :=
  ⟨rfl, rfl, rfl, by simp [World.setCell], fun k _ hn => Below.heap_setCell _ _ _ _ (fun e => hn (e ▸ h))⟩
end
def YieldW (P : Program) (l : Nat) (vs : Array Value) (A : World) (R : Ending -> World -> Prop) : Prop :=
  ∃ fn tmps assign body, (Instr.yield l vs).run P A = .ok (.round l fn tmps assign body) A /\ ∀ m, RoundIn Fence.wide m P l fn tmps assign body A R
theorem YieldW.mono {P : Program} {l : Nat} {vs : Array Value} {A : World} {R R' : Ending -> World -> Prop} (h : YieldW P l vs A R) (hr : ∀ e w, R e w -> R' e w) : YieldW P l vs A R' := by
  obtain ⟨fn, tmps, assign, body, hy, hR⟩ := h
  exact ⟨fn, tmps, assign, body, hy, fun m => (hR m).mono hr⟩
def Iter {β : Type} (P : Program) (gf : Nat) (lb : Array Value) (C : Nat -> Prop) (L : List β) (R : β -> Array Value -> World -> Prop) (w0 : World) : Prop :=
  ∀ (l : Nat) (J : List β -> World -> Prop) (Jx : World -> Prop) (W : World), Below w0.heap.size w0 W →
    (∀ pre A B, J pre A -> Below W.heap.size A B -> J pre B) -> (∀ A B, Jx A -> Below W.heap.size A B -> Jx B) →
    (∀ pre y vs A, pre ++ [y] <+: L -> J pre A -> R y vs A -> W.heap.size <= A.heap.size -> YieldW P l vs A fun e B =>
      (e = .returned (.bool true) /\ J (pre ++ [y]) B /\ Only (fun k => C k ∨ (w0.heap.size <= k /\ k < W.heap.size)) A B) ∨ (e = .returned (.bool false) /\ Jx B /\ Only (fun k => C k ∨ (w0.heap.size <= k /\ k < W.heap.size)) A B)) →
    J [] W →
    Calls P gf (#[.func (.yield l) #[] #[]] ++ lb) W fun e B => (∃ v, e = .returned v) /\ (J L B ∨ Jx B)
structure Turned (l : Nat) (W W' : World) : Prop where
  only : Only (fun k => k = l) W W'
  size : W'.heap.size = W.heap.size
  cell : ∀ p v, W.cell? p = some v -> W'.cell? p = some v
  frozen : ∀ p v, W.cell? p = some v -> W.frozen? p = false -> W'.frozen? p = false
  kept : ∀ (k : Nat) (o : Obj), W.heap[k]? = some o -> (∀ r, o ≠ .loop r) -> W'.heap[k]? = some o
theorem turned_put {W : World} {l : Nat} {r : Loop} (h : W.heap[l]? = some (.loop r)) (o : Obj) : Turned l W (W.putObj l o) := by
  have hk : ∀ (k : Nat) (o' : Obj), W.heap[k]? = some o' -> (∀ r, o' ≠ .loop r) -> k ≠ l := by
    rintro k o' hk hn rfl
    rw [h] at hk; cases hk; exact hn _ rfl
  have hc : ∀ p v, W.cell? p = some v -> p.block ≠ l := by
    rintro ⟨b, i, s⟩ v hv rfl
    unfold World.cell? at hv
    simp [h] at hv
  refine ⟨Only.putObj (C := fun k => k = l) rfl _ _, by simp, fun p v hv => ?_, fun p v hv hf => ?_, fun k o' hk' hn => (World.putObj_heap_other (hk k o' hk' hn)).trans hk'⟩
  . exact (World.cell?_of_block (w := W) (World.putObj_heap_other (hc p v hv))).trans hv
  . rw [World.frozen?_of_block (w := W) (World.putObj_heap_other (hc p v hv))]; exact hf
def roundOwn {β : Type} (C : Nat -> Prop) (I : List β -> World -> Prop) (Ix : Code -> World -> Prop) (xs : List β) (W : World) : Exit -> Act -> World -> Prop
  | .normal, _, W' => Only C W W' /\ I xs W'
  | .ret, _, W' => Only C W W' /\ Ix .ret W'
  | .exit id, _, W' => Only C W W' /\ Ix (.exit id) W'
  | .goto t, _, W' => Only C W W' /\ Ix (.goto t) W'
  | .panic _, _, _ => False
  | .outgrown, _, _ => False
theorem wp_range {β : Type} {P : Program} {g : Operand} {ps : Array Tmp} {assign body : Code} {Q : Exit -> Act -> World -> Prop} {a : Act} {w : World} {gf : Nat} {lb : Array Value} {C : Nat -> Prop} {L : List β} {R : β -> Array Value -> World -> Prop}
    (hg : a.eval g = .func (.func gf) #[] lb) (eg : ∀ args w, (callFunc gf args).run P w = .ok (.enter gf args) w)
    (hit : Iter P gf lb C L R w) (hC : ∀ k, C k -> k < w.heap.size) (hps : ∀ y vs A, R y vs A -> vs.size = ps.size)
    (I : List β -> World -> Prop) (Ix : Code -> World -> Prop) (hI : ∀ pre A B, I pre A -> Below w.heap.size A B -> I pre B) (hIx : ∀ c A B, Ix c A -> Below w.heap.size A B -> Ix c B) (h0 : I [] w)
    (hround : ∀ (l : Nat) (pre : List β) (y : β) (vs : Array Value) (W : World), w.heap.size <= l -> pre ++ [y] <+: L -> I pre W -> R y vs W -> w.heap.size <= W.heap.size →
      assign.wpIn (Fence.wide.inRound l) 0 P (Exit.then (fun a1 W1 => Below W.heap.size W W1 /\ ∀ W2, Turned l W1 W2 -> body.wpIn (Fence.wide.inRound l) 0 P (roundOwn C I Ix (pre ++ [y]) W2) a1 W2) (fun _ _ _ => False))
        { tmps := (ps.zip vs).foldl (fun t (p, v) => t.setIfInBounds p v) a.tmps, defers := [] } W)
    (hdone : ∀ W, I L W -> W.heap[w.heap.size]? = some (.deferred (some [])) -> Q .normal { a with defers := { target := .collected w.heap.size, args := #[] } :: a.defers } W)
    (hstop : ∀ c W, Ix c W -> W.heap[w.heap.size]? = some (.deferred (some [])) -> c.wp P Q { a with defers := { target := .collected w.heap.size, args := #[] } :: a.defers } W) :
    (Code.rangeFunc g ps assign body).wp P Q a w := by
  refine (wpIn_wide (n := 0)).1 (wpIn_rangeFunc ?_)
  intro fn hfn
  obtain ⟨rec, hrec⟩ : ∃ rec : LoopState -> Option Code -> Loop, rec = fun st pe => { state := st, pending := pe, fn, tmps := a.tmps, params := ps, assign, body, defers := w.heap.size } := ⟨_, rfl⟩
  obtain ⟨W1, hW1⟩ : ∃ W1, (w.alloc (.deferred (some []))).alloc (.loop (rec .ready none)) = W1 := ⟨_, rfl⟩
  have hL1 : W1.heap[w.heap.size + 1]? = some (.loop (rec .ready none)) := by
    rw [← hW1]; have := World.alloc_heap_new (w.alloc (.deferred (some []))) (.loop (rec .ready none)); rwa [World.size_alloc] at this
  have hK1 : W1.heap[w.heap.size]? = some (.deferred (some [])) := by
    rw [← hW1]; exact (Below.heap_alloc _ _ _ (by simp)).trans (World.alloc_heap_new w _)
  have hz1 : W1.heap.size = w.heap.size + 2 := by rw [← hW1]; simp
  have hb1 : Below w.heap.size w W1 := by
    rw [← hW1]; exact ((Below.refl _ w).alloc (Nat.le_refl _) _).alloc (by simp) _
  have hblk : ∀ {A B : World} {k : Nat} {o : Obj}, k < W1.heap.size -> A.heap[k]? = some o -> Below W1.heap.size A B -> B.heap[k]? = some o := fun hk h hb => (hb.block _ hk).trans h
  have hle : w.heap.size <= W1.heap.size := by omega
  have fin : ∀ (jump : Option Code) (W2 W3 : World), W2.heap[w.heap.size + 1]? = some (.loop { rec .ready none with state := .busy }) -> W2.heap[w.heap.size]? = some (.deferred (some [])) -> Only C W2 W3 →
      (Instr.endRound (w.heap.size + 1) jump).run P W3 = .ok (.bool jump.isNone) (W3.putObj (w.heap.size + 1) (.loop (rec (if jump.isNone then .ready else .done) jump))) ∧
      (W3.putObj (w.heap.size + 1) (.loop (rec (if jump.isNone then .ready else .done) jump))).heap[w.heap.size + 1]? = some (.loop (rec (if jump.isNone then .ready else .done) jump)) ∧
      (W3.putObj (w.heap.size + 1) (.loop (rec (if jump.isNone then .ready else .done) jump))).heap[w.heap.size]? = some (.deferred (some [])) ∧
      Only (fun k => C k ∨ (w.heap.size <= k /\ k < W1.heap.size)) W2 (W3.putObj (w.heap.size + 1) (.loop (rec (if jump.isNone then .ready else .done) jump))) ∧
      Below w.heap.size W3 (W3.putObj (w.heap.size + 1) (.loop (rec (if jump.isNone then .ready else .done) jump))) := fun jump W2 W3 h2 h2' hk3 => by
    have hl3 := (hk3.block _ (Array.getElem?_eq_some_iff.1 h2).1 (fun hc => by have := hC _ hc; omega)).trans h2
    have hd3 := (hk3.block _ (Array.getElem?_eq_some_iff.1 h2').1 (fun hc => by have := hC _ hc; omega)).trans h2'
    have := run_endRound (P := P) jump hl3
    rw [hrec] at this ⊢
    refine ⟨this, World.putObj_heap_same (Array.getElem?_eq_some_iff.1 hl3).1, (World.putObj_heap_other (by omega)).trans hd3, (hk3.mono (fun k _ h => Or.inl h)).tr (Only.putObj (Or.inr ⟨by omega, by omega⟩) _ _), ?_⟩
    exact ((Only.putObj (C := fun k => w.heap.size <= k) (l := w.heap.size + 1) (by omega) W3 _).below (by
      have := (Array.getElem?_eq_some_iff.1 hl3).1
      omega) (fun k hk => hk))
  refine ⟨w.heap.size + 1, [{ target := .collected w.heap.size, args := #[] }], W1, { target := .fn (.func gf) lb, args := #[.func (.yield (w.heap.size + 1)) #[] #[]] }, W1, gf,
    #[.func (.yield (w.heap.size + 1)) #[] #[]] ++ lb, W1, ?_, ?_, ?_, ?_, ?_, ?_⟩
  . rw [← hW1, hrec]; exact run_enterLoop_outer _ _ _ _ _
  . simp only [resolve, hg]
    simp [go_sem]
  . intro f' hf'; trivial
  . simp [invoke, go_sem, eg]
  . intro h; cases h
  . refine callsIn_wide.2 ((hit (w.heap.size + 1)
      (fun pre W => I pre W /\ W.heap[w.heap.size + 1]? = some (.loop (rec .ready none)) /\ W.heap[w.heap.size]? = some (.deferred (some [])))
      (fun W => ∃ c, Ix c W /\ W.heap[w.heap.size + 1]? = some (.loop (rec .done (some c))) /\ W.heap[w.heap.size]? = some (.deferred (some [])))
      W1 hb1 ?_ ?_ ?_ ⟨hI _ _ _ h0 hb1, hL1, hK1⟩).mono ?_)
    . rintro pre A B ⟨h1, h2, h3⟩ hb
      exact ⟨hI _ _ _ h1 (hb.mono hle), hblk (by omega) h2 hb, hblk (by omega) h3 hb⟩
    . rintro A B ⟨c, h1, h2, h3⟩ hb
      exact ⟨c, hIx _ _ _ h1 (hb.mono hle), hblk (by omega) h2 hb, hblk (by omega) h3 hb⟩
    . rintro pre y vs W hpre ⟨hi, hl, hk⟩ hR hsz
      have hy := run_yield (P := P) (args := vs) hl (by rw [hrec]; exact hps _ _ _ hR)
      rw [hrec] at hy
      refine ⟨fn, _, assign, body, hy, fun m => ?_⟩
      clear hy
      have hrd := hround (w.heap.size + 1) pre y vs W (by omega) hpre hi hR (by omega)
      have hany : ∀ (c : Code) (Q : Exit -> Act -> World -> Prop) (a : Act) (w : World) (l n : Nat), c.wpIn (Fence.wide.inRound l) 0 P Q a w -> c.wpIn (Fence.wide.inRound l) n P Q a w := fun c Q a w l n h b k cs hro hb _ => h b k cs hro hb (fun d hd => by cases hd)
      refine roundIn_of_wpIn hfn (hany _ _ _ _ _ _ (wpIn_mono hrd ?_))
      rintro e a1 Wa hp
      cases e with
      | normal =>
        obtain ⟨hba, hbody⟩ := hp
        have hla := (hba.block _ (Array.getElem?_eq_some_iff.1 hl).1).trans hl
        have hka := (hba.block _ (Array.getElem?_eq_some_iff.1 hk).1).trans hk
        refine ⟨_, run_beginRound hla (by rw [hrec]), ?_⟩
        have hl2 : (Wa.putObj (w.heap.size + 1) (.loop { rec .ready none with state := .busy })).heap[w.heap.size + 1]? = some (.loop { rec .ready none with state := .busy }) := World.putObj_heap_same (Array.getElem?_eq_some_iff.1 hla).1
        have hk2 : (Wa.putObj (w.heap.size + 1) (.loop { rec .ready none with state := .busy })).heap[w.heap.size]? = some (.deferred (some [])) := (World.putObj_heap_other (by omega)).trans hka
        have hoa : Only (fun k => C k ∨ (w.heap.size <= k /\ k < W1.heap.size)) W (Wa.putObj (w.heap.size + 1) (.loop { rec .ready none with state := .busy })) :=
          (Only.of_ext hba).tr (Only.putObj (Or.inr ⟨by omega, by omega⟩) _ _)
        refine hany _ _ _ _ _ _ (wpIn_mono (hbody _ (turned_put hla _)) ?_)
        rintro e a3 W3 hp
        cases e with
        | normal =>
          obtain ⟨hk3, hi3⟩ := hp
          obtain ⟨hr, hl4, hk4, ho4, hb4⟩ := fin none _ W3 hl2 hk2 hk3
          exact ⟨_, _, hr, .inl ⟨rfl, ⟨hI _ _ _ hi3 hb4, hl4, hk4⟩, hoa.tr ho4⟩⟩
        | ret =>
          obtain ⟨hk3, hi3⟩ := hp
          obtain ⟨hr, hl4, hk4, ho4, hb4⟩ := fin (some .ret) _ W3 hl2 hk2 hk3
          exact ⟨_, _, hr, .inr ⟨rfl, ⟨.ret, hIx _ _ _ hi3 hb4, hl4, hk4⟩, hoa.tr ho4⟩⟩
        | exit id =>
          obtain ⟨hk3, hi3⟩ := hp
          obtain ⟨hr, hl4, hk4, ho4, hb4⟩ := fin (some (.exit id)) _ W3 hl2 hk2 hk3
          exact ⟨_, _, hr, .inr ⟨rfl, ⟨.exit id, hIx _ _ _ hi3 hb4, hl4, hk4⟩, hoa.tr ho4⟩⟩
        | goto t =>
          obtain ⟨hk3, hi3⟩ := hp
          obtain ⟨hr, hl4, hk4, ho4, hb4⟩ := fin (some (.goto t)) _ W3 hl2 hk2 hk3
          exact ⟨_, _, hr, .inr ⟨rfl, ⟨.goto t, hIx _ _ _ hi3 hb4, hl4, hk4⟩, hoa.tr ho4⟩⟩
        | panic ch => exact hp.elim
        | outgrown => exact hp.elim
      | ret => exact hp.elim
      | exit id => exact hp.elim
      | goto t => exact hp.elim
      | panic ch => exact hp.elim
      | outgrown => exact hp.elim
    . have hend : ∀ (r : Loop) (W2 : World), W2.heap[w.heap.size]? = some (.deferred (some [])) -> W2.heap[w.heap.size + 1]? = some (.loop r) -> ∀ o,
          Below w.heap.size W2 (W2.putObj (w.heap.size + 1) o) /\ (W2.putObj (w.heap.size + 1) o).heap[w.heap.size]? = some (.deferred (some [])) := fun r W2 hd hl o =>
        ⟨(Only.putObj (C := fun k => w.heap.size <= k) (l := w.heap.size + 1) (by omega) W2 _).below (by have := (Array.getElem?_eq_some_iff.1 hl).1; omega) (fun k hk => hk), (World.putObj_heap_other (by omega)).trans hd⟩
      rintro e W2 ⟨⟨v, rfl⟩, (⟨hi, hl, hk⟩ | ⟨c, hi, hl, hk⟩)⟩
      . obtain ⟨q1, q2⟩ := hend _ _ hk hl (.loop { rec .ready none with state := .exhausted })
        exact ⟨none, _, by have := run_endLoop (P := P) hl (by rw [hrec]; simp); rw [hrec] at this; exact this, hdone _ (by rw [hrec] at q1; exact hI _ _ _ hi q1) (by rw [hrec] at q2; exact q2)⟩
      . obtain ⟨q1, q2⟩ := hend _ _ hk hl (.loop { rec .done (some c) with state := .exhausted })
        exact ⟨some c, _, by have := run_endLoop (P := P) hl (by rw [hrec]; simp); rw [hrec] at this; exact this, wpIn_wide.2 (hstop c _ (by rw [hrec] at q1; exact hIx _ _ _ hi q1) (by rw [hrec] at q2; exact q2))⟩
#print axioms wp_range
end Go.Proofs.YtkdglplfcpindaaGreatDoor

namespace Go.Proofs.YtkdglplfcpindaaGreatDoor
open Go.RowKit Go.Maps Go.WideMaps Go.ChangeMaps Go.MapKept
def eqS (a b : ByteArray) : Bool := a.toList == b.toList
theorem eqS_iff {a b : ByteArray} : eqS a b = true ↔ a = b := by
  unfold eqS
  rw [beq_iff_eq, ByteArray.toList_eq, ByteArray.toList_eq]
  exact ⟨Go.WideShapes.bytes_inj, fun h => by rw [h]⟩
theorem eqS_ne {a b : ByteArray} (h : eqS a b = false) : a ≠ b := fun e => by rw [eqS_iff.2 e] at h; cases h
theorem eqS_self (a : ByteArray) : eqS a a = true := eqS_iff.2 rfl
theorem eqS_comm (a b : ByteArray) : eqS a b = eqS b a := by
  cases h : eqS b a
  . cases h2 : eqS a b
    . rfl
    . rw [eqS_iff.1 h2, eqS_self] at h; cases h
  . rw [eqS_iff.1 h]; exact eqS_self _
theorem hasS_cons' (s : ByteArray) (S : List ByteArray) (k : ByteArray) : hasS (s :: S) k = (eqS k s || hasS S k) := rfl
theorem hasS_append (S T : List ByteArray) (k : ByteArray) : hasS (S ++ T) k = (hasS S k || hasS T k) := by simp [hasS]
section
variable {P : Program}
abbrev kS (s : ByteArray) : Lit := .string s.data.toList
theorem kS_ne {a b : ByteArray} (h : a ≠ b) : kS a ≠ kS b := fun e => h (Go.WideShapes.bytes_inj (by injection e))
theorem key_lit (s : ByteArray) : WideAt.IsKeyLit (kS s) := trivial
def AllT (D : DataW Unit) : Prop := ∀ kl z, has D kl = true -> D.atKey kl z = .lit (.bool true)
def SetO (P : Program) (w : World) (b n : Nat) (f : ByteArray -> Bool) : Prop :=
  ∃ D : DataW Unit, w.ownsMap P 9 (plainElem P 4) b n D /\ (∀ k, has D (kS k) = f k) /\ AllT D
theorem owns_block {w w' : World} {k : TypeId} {R : Value -> Option (DataW Unit × List MemPlace)} {b n : Nat} {D : DataW Unit} (h : w.ownsMap P k R b n D) (hb : w'.heap[b]? = w.heap[b]?) : w'.ownsMap P k R b n D := by
  obtain ⟨es, clock, he, r⟩ := h
  exact ⟨es, clock, hb.trans he, r⟩
theorem SetO.block {w w' : World} {b n : Nat} {f : ByteArray -> Bool} (h : SetO P w b n f) (hb : w'.heap[b]? = w.heap[b]?) : SetO P w' b n f := by
  obtain ⟨D, h1, h2⟩ := h; exact ⟨D, owns_block h1 hb, h2⟩
theorem SetO.lt {w : World} {b n : Nat} {f : ByteArray -> Bool} (h : SetO P w b n f) : b < w.heap.size := by obtain ⟨D, h1, _⟩ := h; exact h1.lt
theorem SetO.ext {w w' : World} {b n : Nat} {f : ByteArray -> Bool} (h : SetO P w b n f) (hb : Ext w w') : SetO P w' b n f := h.block (hb.block b h.lt)
theorem SetO.mono {w : World} {b n m : Nat} {f : ByteArray -> Bool} (h : SetO P w b n f) (hm : n <= m) : SetO P w b m f := by obtain ⟨D, h1, h2⟩ := h; exact ⟨D, h1.mono hm, h2⟩
theorem SetO.is {w : World} {b n : Nat} {f : ByteArray -> Bool} (h : SetO P w b n f) : ∃ es clock, w.heap[b]? = some (.map es clock) := by obtain ⟨D, ⟨es, clock, he, _⟩, _⟩ := h; exact ⟨es, clock, he⟩
theorem SetO.new (w : World) : SetO P (w.alloc (.map #[] 0)) w.heap.size 0 (fun _ => false) := ⟨_, World.ownsMap_made w P 9 _, fun _ => rfl, fun _ _ h => by cases h⟩
variable {w : World} {b n : Nat} (h4 : P.underlying 4 = some .bool) (h3 : P.underlying 3 = some (.int .i64)) (h9 : P.underlying 9 = some .string)
include h9
include h4 in
theorem run_lookup_setO {f : ByteArray -> Bool} (t : TypeId) (ht : P.underlying t = some (.map 9 4)) (h : SetO P w b n f) (hz : (zeroValue 4).run P w = .ok (.bool false) w) {k : ByteArray} (hk : k.size <= maxLen) :
    (Instr.lookup t (.map (some b)) (.string k) false).run P w = .ok (.bool (f k)) w := by
  obtain ⟨D, hown, hf, hT⟩ := h
  obtain ⟨v, ps, hrun, hR⟩ := hown.lookup (string_keyed h9) ht hz (plainElem_bool h4 false) (keyOf_string_mk h9 hk)
  rw [hrun]
  cases hc : f k with
  | false =>
    rw [atKey_of_not_has (by rw [hf]; exact hc)] at hR
    cases v <;> simp [plainElem, h4] at hR
    rw [hR.1]
  | true =>
    rw [hT _ _ (by rw [hf]; exact hc)] at hR
    cases v <;> simp [plainElem, h4] at hR
    rw [hR.1]
theorem run_lookup_set_none (t : TypeId) (ht : P.underlying t = some (.map 9 4)) (hz : (zeroValue 4).run P w = .ok (.bool false) w) {k : ByteArray} (hk : k.size <= maxLen) :
    (Instr.lookup t (.map none) (.string k) false).run P w = .ok (.bool false) w := by
  have := Maps.look_nil (c := false) (string_keyed h9) ht hz (keyOf_string_mk h9 hk)
  simpa using this
include h4 in
theorem run_update_setO {f : ByteArray -> Bool} (t : TypeId) (ht : P.underlying t = some (.map 9 4)) (h : SetO P w b n f) (hn : n < maxLen) {k : ByteArray} (hk : k.size <= maxLen) :
    ∃ w', (Instr.mapUpdate t (.map (some b)) (.string k) (.bool true)).run P w = .ok () w' /\ SetO P w' b (n + 1) (fun x => eqS x k || f x) /\ w.grownBy w' (some b) /\ w'.heap.size = w.heap.size := by
  obtain ⟨D, hown, hf, hT⟩ := h
  obtain ⟨w', hrun, ho, es, clock, es', clock', _, hw'⟩ := hown.store (string_keyed h9) ht hn (keyOf_string_mk h9 hk) (plainElem_bool h4 true)
  refine ⟨w', hrun, ⟨_, ho, fun x => ?_, fun kl z hk' => ?_⟩, World.mapTurned.grown ⟨es, clock, es', clock', by assumption, hw'⟩, by rw [hw']; simp [setBlock]⟩
  . show _ = (eqS x k || f x)
    cases hx : eqS x k with
    | true => rw [eqS_iff.1 hx]; exact has_put_same hown.isMap (key_lit k) _
    | false => rw [has_put_other (kS_ne (eqS_ne hx)), hf]; rfl
  . by_cases he : kl = kS k
    . subst he; exact atKey_put_same hown.isMap (key_lit k) _ _
    . rw [has_put_other he] at hk'
      rw [atKey_put_other he]; exact hT _ _ hk'
include h3 in
end
end Go.Proofs.YtkdglplfcpindaaGreatDoor

namespace Go.Proofs.YtkdglplfcpindaaGreatDoor
open Go.RowKit
def posB (l : List Decl) (t : Int) : Bool × Int :=
  if validB l = false then (false, 10) else if t = 0 then (true, 0) else match l[(t - 1).toNat]? with
    | some d => if 1 <= t then (!d.codata, 0) else (false, 1)
    | none => (false, 1)
theorem posB_bad {l : List Decl} {t : Int} (h : validB l = false) : posB l t = (false, 10) := by simp [posB, h]
theorem posB_zero {l : List Decl} (h : validB l = true) : posB l 0 = (true, 0) := by simp [posB, h]
theorem posB_out {l : List Decl} {t : Int} (h : validB l = true) (h0 : t ≠ 0) (ht : ¬ (1 <= t /\ t <= l.length)) : posB l t = (false, 1) := by
  unfold posB
  rw [if_neg (by simp [h]), if_neg h0]
  by_cases h1 : 1 <= t
  . rw [List.getElem?_eq_none (by omega)]
  . cases l[(t - 1).toNat]? <;> simp [h1]
theorem posB_in {l : List Decl} {t : Nat} (h : validB l = true) (ht : t < l.length) : posB l (t + 1) = (!(l[t]).codata, 0) := by
  unfold posB
  rw [if_neg (by simp [h]), if_neg (by omega)]
  have e : ((t : Int) + 1 - 1).toNat = t := by omega
  rw [e, List.getElem?_eq_getElem ht]
  simp; omega
end Go.Proofs.YtkdglplfcpindaaGreatDoor

namespace Go.Proofs.YtkdglplfcpindaaGreatDoor
abbrev Str := ByteArray
inductive Tm where
  | mk (op n : Int) (nm : Str) (ty : Int) (args : List Tm) (cls : List (List Str × Tm))
namespace Tm
def op : Tm -> Int | mk a _ _ _ _ _ => a
def n : Tm -> Int | mk _ a _ _ _ _ => a
def nm : Tm -> Str | mk _ _ a _ _ _ => a
def ty : Tm -> Int | mk _ _ _ a _ _ => a
def args : Tm -> List Tm | mk _ _ _ _ a _ => a
def cls : Tm -> List (List Str × Tm) | mk _ _ _ _ _ a => a
end Tm
structure Prm where
  nm : Str
  ty : Int
structure Fn where
  nm : Str
  ps : List Prm
  res : Int
  body : Tm
structure Pg where
  decls : List Decl
  funs : List Fn
abbrev Bnd := List Str × Bool
def bndAt (op : Int) (nm : Str) (i : Nat) : Bnd := if op = 8 /\ i = 1 then ([nm], false) else if op = 11 /\ i = 0 then ([nm], true) else ([], false)
def kidsFrom (op : Int) (nm : Str) : Nat -> List Tm -> List (Bnd × Tm)
  | _, [] => []
  | i, a :: r => (bndAt op nm i, a) :: kidsFrom op nm (i + 1) r
def kids (t : Tm) : List (Bnd × Tm) := kidsFrom t.op t.nm 0 t.args ++ t.cls.map fun c => ((c.1, false), c.2)
theorem kidsFrom_length (op : Int) (nm : Str) : ∀ (l : List Tm) (i : Nat), (kidsFrom op nm i l).length = l.length
  | [], _ => rfl
  | _ :: r, i => by simp [kidsFrom, kidsFrom_length op nm r]
theorem kidsFrom_get (op : Int) (nm : Str) : ∀ (l : List Tm) (i j : Nat) (a : Tm), l[j]? = some a -> (kidsFrom op nm i l)[j]? = some (bndAt op nm (i + j), a)
  | [], _, _, _, h => by simp at h
  | x :: r, i, 0, a, h => by simp at h; subst h; simp [kidsFrom]
  | x :: r, i, j + 1, a, h => by
    simp only [kidsFrom, List.getElem?_cons_succ] at h ⊢
    rw [kidsFrom_get op nm r (i + 1) j a h]
    rw [show i + 1 + j = i + (j + 1) by omega]
mutual
def nodesL : Int -> Tm -> List (Int × Tm)
  | d, .mk op n nm ty args cls => (d, .mk op n nm ty args cls) :: (nodesA (d + 1) args ++ nodesC (d + 1) cls)
def nodesA : Int -> List Tm -> List (Int × Tm)
  | _, [] => []
  | d, a :: r => nodesL d a ++ nodesA d r
def nodesC : Int -> List (List Str × Tm) -> List (Int × Tm)
  | _, [] => []
  | d, (_, t) :: r => nodesL d t ++ nodesC d r
end
def nodesK (d : Int) : List (Bnd × Tm) -> List (Int × Tm)
  | [] => []
  | x :: r => nodesL d x.2 ++ nodesK d r
theorem nodesK_append (d : Int) (k : List (Bnd × Tm)) : ∀ l, nodesK d (l ++ k) = nodesK d l ++ nodesK d k
  | [] => rfl
  | x :: r => by simp [nodesK, nodesK_append d k r]
theorem nodesA_kids (op : Int) (nm : Str) (d : Int) : ∀ (l : List Tm) (i : Nat), nodesA d l = nodesK d (kidsFrom op nm i l)
  | [], _ => by simp [nodesA, kidsFrom, nodesK]
  | a :: r, i => by simp [nodesA, kidsFrom, nodesK, nodesA_kids op nm d r (i + 1)]
theorem nodesC_kids (d : Int) : ∀ (l : List (List Str × Tm)), nodesC d l = nodesK d (l.map fun c => ((c.1, false), c.2))
  | [] => by simp [nodesC, nodesK]
  | (ns, t) :: r => by simp [nodesC, nodesK, nodesC_kids d r]
theorem nodesL_kids (d : Int) (t : Tm) : nodesL d t = (d, t) :: nodesK (d + 1) (kids t) := by
  cases t with
  | mk op n nm ty args cls => rw [nodesL, kids, nodesK_append, nodesA_kids op nm (d + 1) args 0, nodesC_kids]; rfl
def sizeOK (l : List (Int × Tm)) : Bool := decide (l.length <= 600) && l.all fun p => decide (p.1 <= 24)
def sizeR (t : Tm) : Int × Bool := if sizeOK (nodesL 1 t) then ((nodesL 1 t).length, true) else (0, false)
def emptyB (s : Str) : Bool := s.toList.isEmpty
def hasF (t : Tm) (fn fnm fty : Bool) (na nc : Int) : Bool :=
  (fn || decide (t.n = 0)) && (fnm || emptyB t.nm) && (fty || decide (t.ty = 0)) && decide ((t.args.length : Int) = na) && decide ((t.cls.length : Int) = nc)
def isTypeB (P : Pg) (ty : Int) : Bool := decide (0 <= ty) && decide (ty <= P.decls.length)
def noDecl : Decl := ⟨⟨#[]⟩, false, []⟩
def declAt (P : Pg) (ty : Int) : Decl := P.decls.getD (ty - 1).toNat noDecl
def isDeclB (P : Pg) (ty : Int) (co : Bool) : Bool := decide (1 <= ty) && decide (ty <= P.decls.length) && ((declAt P ty).codata == co)
def isIdxB (i n : Int) : Bool := decide (0 <= i) && decide (i < n)
def noXtor : Xtor := ⟨⟨#[]⟩, []⟩
def prodI (x : Xtor) : Int := ((x.args.filter fun a => !a.co).length : Int)
def fitsXB (P : Pg) (t : Tm) : Bool :=
  isIdxB t.n (declAt P t.ty).xtors.length && hasF t true false true ((declAt P t.ty).xtors.getD t.n.toNat noXtor).args.length 0
def clsB : List Xtor -> List (List Str × Tm) -> Bool
  | _, [] => true
  | xs, c :: r => decide ((c.1.length : Int) = prodI (xs.headD noXtor)) && clsB xs.tail r
def fitsCB (P : Pg) (t : Tm) (na : Int) : Bool :=
  hasF t false false true na (declAt P t.ty).xtors.length && clsB (declAt P t.ty).xtors t.cls
def noFn : Fn := ⟨⟨#[]⟩, [], 0, .mk 0 0 ⟨#[]⟩ 0 [] []⟩
def fitsT (P : Pg) (t : Tm) : Bool :=
  if t.op = 0 then hasF t false true false 0 0
  else if t.op = 1 then hasF t true false false 0 0
  else if t.op = 2 then hasF t true false false 2 0 && decide (0 <= t.n) && decide (t.n <= 6)
  else if t.op = 3 then hasF t false false false 3 0
  else if t.op = 4 then isDeclB P t.ty false && fitsXB P t
  else if t.op = 5 then isDeclB P t.ty false && fitsCB P t 1
  else if t.op = 6 then isDeclB P t.ty true && fitsXB P t
  else if t.op = 7 then isDeclB P t.ty true && fitsCB P t 0
  else if t.op = 8 then hasF t false true true 2 0 && isTypeB P t.ty
  else if t.op = 9 then isIdxB t.n P.funs.length && hasF t true false false (P.funs.getD t.n.toNat noFn).ps.length 0
  else if t.op = 10 then hasF t false false false 2 0
  else if t.op = 11 ∨ t.op = 12 then hasF t false true true 1 0 && isTypeB P t.ty
  else false
def distF (f : Str -> Bool) : List Str -> Bool
  | [] => true
  | s :: r => nameB s && !f s && distF (fun x => (x.toList == s.toList) || f x) r
def distB (l : List Str) : Bool := distF (fun _ => false) l
abbrev Scp := Str -> Bool
def addV (V : Scp) (b : Bnd) : Scp := if b.2 then V else fun k => hasS b.1 k || V k
def addL (L : Scp) (b : Bnd) : Scp := if b.2 then fun k => hasS b.1 k || L k else L
def refB (V L : Scp) (t : Tm) : Bool := if t.op = 0 then V t.nm else if t.op = 12 then L t.nm else true
mutual
def validT (P : Pg) : Scp -> Scp -> Tm -> Bool
  | V, L, .mk op n nm ty args cls => fitsT P (.mk op n nm ty args cls) && refB V L (.mk op n nm ty args cls) && (validA P op nm V L 0 args && validC P V L cls)
def validA (P : Pg) (op : Int) (nm : Str) : Scp -> Scp -> Nat -> List Tm -> Bool
  | _, _, _, [] => true
  | V, L, i, a :: r => (distB (bndAt op nm i).1 && validT P (addV V (bndAt op nm i)) (addL L (bndAt op nm i)) a) && validA P op nm V L (i + 1) r
def validC (P : Pg) : Scp -> Scp -> List (List Str × Tm) -> Bool
  | _, _, [] => true
  | V, L, (ns, t) :: r => (distB ns && validT P (addV V (ns, false)) (addL L (ns, false)) t) && validC P V L r
end
def validK (P : Pg) (V L : Scp) (x : Bnd × Tm) : Bool := distB x.1.1 && validT P (addV V x.1) (addL L x.1) x.2
theorem validA_kids (P : Pg) (op : Int) (nm : Str) (V L : Scp) : ∀ (l : List Tm) (i : Nat), validA P op nm V L i l = (kidsFrom op nm i l).all (validK P V L)
  | [], _ => by simp [validA, kidsFrom]
  | a :: r, i => by simp [validA, kidsFrom, validK, validA_kids P op nm V L r (i + 1)]
theorem validC_kids (P : Pg) (V L : Scp) : ∀ (l : List (List Str × Tm)), validC P V L l = (l.map fun c => ((c.1, false), c.2)).all (validK P V L)
  | [] => by simp [validC]
  | (ns, t) :: r => by rw [validC, validC_kids P V L r]; simp [validK]
theorem validT_kids (P : Pg) (V L : Scp) (t : Tm) : validT P V L t = (fitsT P t && refB V L t && (kids t).all (validK P V L)) := by
  cases t with
  | mk op n nm ty args cls => rw [validT, validA_kids P op nm V L args 0, validC_kids, kids, List.all_append]; rfl
def vnames (b : Bnd) : List Str := if b.2 then [] else b.1
def lnames (b : Bnd) : List Str := if b.2 then b.1 else []
mutual
def fvT : Tm -> Str -> Bool
  | .mk op _ nm _ args cls, k => (decide (op = 0) && (k.toList == nm.toList)) || (fvA op nm 0 args k || fvC cls k)
def fvA (op : Int) (nm : Str) : Nat -> List Tm -> Str -> Bool
  | _, [], _ => false
  | i, a :: r, k => (!hasS (vnames (bndAt op nm i)) k && fvT a k) || fvA op nm (i + 1) r k
def fvC : List (List Str × Tm) -> Str -> Bool
  | [], _ => false
  | (ns, t) :: r, k => (!hasS ns k && fvT t k) || fvC r k
end
mutual
def flT : Tm -> Str -> Bool
  | .mk op _ nm _ args cls, k => (decide (op = 12) && (k.toList == nm.toList)) || (flA op nm 0 args k || flC cls k)
def flA (op : Int) (nm : Str) : Nat -> List Tm -> Str -> Bool
  | _, [], _ => false
  | i, a :: r, k => (!hasS (lnames (bndAt op nm i)) k && flT a k) || flA op nm (i + 1) r k
def flC : List (List Str × Tm) -> Str -> Bool
  | [], _ => false
  | (_, t) :: r, k => flT t k || flC r k
end
mutual
def wT : Tm -> Nat
  | .mk op _ nm _ args cls => wA op nm 0 args + wC cls
def wA (op : Int) (nm : Str) : Nat -> List Tm -> Nat
  | _, [] => 0
  | i, a :: r => (bndAt op nm i).1.length + wT a + wA op nm (i + 1) r
def wC : List (List Str × Tm) -> Nat
  | [] => 0
  | (ns, t) :: r => ns.length + wT t + wC r
end
def mainB (f : Fn) : Bool := f.ps.all (fun a => decide (a.ty = 0)) && decide (f.res = 0)
def sizesB : Int -> List Fn -> Bool
  | n, [] => decide (n <= 600)
  | n, f :: r => (sizeR f.body).2 && sizesB (n + (sizeR f.body).1) r
def funB (P : Pg) (f : Fn) : Bool :=
  decide (f.ps.length <= 6) && isTypeB P f.res && f.ps.all (fun a => isTypeB P a.ty) && (distB (f.ps.map Prm.nm) && validT P (hasS (f.ps.map Prm.nm)) (fun _ => false) f.body)
def progB (P : Pg) : Bool :=
  (validB P.decls && srcB P.decls) && (decide (1 <= P.funs.length) && decide (P.funs.length <= 12) && distB (P.funs.map Fn.nm)) && (mainB (P.funs.headD noFn) && sizesB 0 P.funs) && P.funs.all (funB P)
def chkP (P : Pg) : Int := if progB P then 0 else 20
end Go.Proofs.YtkdglplfcpindaaGreatDoor

namespace Go.Proofs.YtkdglplfcpindaaGreatDoor
open Go.RowKit
def RStrs (w : World) (v : Value) (l : List Str) : Prop :=
  ∃ A c, v = .slice A l.length c /\ l.length <= c /\ c <= maxLen ∧
    ∀ i s, l[i]? = some s -> ∃ b o, A = some ⟨b, o, none⟩ /\ b < w.heap.size /\ w.cell? ⟨b, o + i, none⟩ = some (.string s) /\ s.size <= maxLen
structure C6 (w : World) (b o : Nat) (t : Tm) (va vc : Value) : Prop where
  c0 : w.cell? ⟨b, o, none⟩ = some (.int .i64 t.op)
  c1 : w.cell? ⟨b, o + 1, none⟩ = some (.int .i64 t.n)
  c2 : w.cell? ⟨b, o + 2, none⟩ = some (.string t.nm)
  c3 : w.cell? ⟨b, o + 3, none⟩ = some (.int .i64 t.ty)
  c4 : w.cell? ⟨b, o + 4, none⟩ = some va
  c5 : w.cell? ⟨b, o + 5, none⟩ = some vc
def ok64 (x : Int) : Prop := (Lit.int .i64 x).wf = true
abbrev tV (t : Tm) (va vc : Value) : Value := .agg #[.int .i64 t.op, .int .i64 t.n, .string t.nm, .int .i64 t.ty, va, vc]
def RT (w : World) : Nat -> Tm -> Value -> Value -> Prop
  | 0, _, _, _ => False
  | k + 1, t, va, vc => (t.nm.size <= maxLen /\ ok64 t.n /\ ok64 t.ty) ∧
    (∃ A c, va = .slice A t.args.length c /\ t.args.length <= c /\ c <= maxLen ∧
      ∀ i x, t.args[i]? = some x -> ∃ b o xa xc, A = some ⟨b, o, none⟩ /\ b < w.heap.size /\ C6 w b (o + i * 6) x xa xc /\ RT w k x xa xc) ∧
    (∃ B c, vc = .slice B t.cls.length c /\ t.cls.length <= c /\ c <= maxLen ∧
      ∀ i x, t.cls[i]? = some x -> ∃ b o vn xa xc, B = some ⟨b, o, none⟩ /\ b < w.heap.size /\ w.cell? ⟨b, o + i * 7, none⟩ = some vn /\ RStrs w vn x.1 /\ C6 w b (o + i * 7 + 1) x.2 xa xc /\ RT w k x.2 xa xc)
def RPrms (w : World) (v : Value) (l : List Prm) : Prop :=
  ∃ A c, v = .slice A l.length c /\ l.length <= c /\ c <= maxLen ∧
    ∀ i a, l[i]? = some a -> ∃ b o, A = some ⟨b, o, none⟩ /\ b < w.heap.size /\ w.cell? ⟨b, o + i * 2, none⟩ = some (.string a.nm) /\ w.cell? ⟨b, o + i * 2 + 1, none⟩ = some (.int .i64 a.ty) /\ a.nm.size <= maxLen
abbrev fV (f : Fn) (vp xa xc : Value) : Value := .agg #[.string f.nm, vp, .int .i64 f.res, .int .i64 f.body.op, .int .i64 f.body.n, .string f.body.nm, .int .i64 f.body.ty, xa, xc]
def RFns (w : World) (v : Value) (l : List Fn) : Prop :=
  ∃ A c, v = .slice A l.length c /\ l.length <= c /\ c <= maxLen ∧
    ∀ i f, l[i]? = some f -> ∃ b o vp xa xc k, A = some ⟨b, o, none⟩ /\ b < w.heap.size /\ w.cell? ⟨b, o + i * 9, none⟩ = some (.string f.nm) /\ w.cell? ⟨b, o + i * 9 + 1, none⟩ = some vp /\ w.cell? ⟨b, o + i * 9 + 2, none⟩ = some (.int .i64 f.res) ∧
      C6 w b (o + i * 9 + 3) f.body xa xc /\ f.nm.size <= maxLen /\ RPrms w vp f.ps /\ RT w k f.body xa xc
abbrev pV (vd vf : Value) : Value := .agg #[vd, vf]
section
variable {w w' : World} {v : Value}
theorem C6.below {b o : Nat} {t : Tm} {va vc : Value} (h : C6 w b o t va vc) (hb : Ext w w') : C6 w' b o t va vc :=
  ⟨hb.keep h.c0, hb.keep h.c1, hb.keep h.c2, hb.keep h.c3, hb.keep h.c4, hb.keep h.c5⟩
theorem RStrs.below {l : List Str} (h : RStrs w v l) (hb : Ext w w') : RStrs w' v l := by
  obtain ⟨A, c, rfl, h1, h2, h3⟩ := h
  refine ⟨A, c, rfl, h1, h2, fun i a hi => ?_⟩
  obtain ⟨b, o, rfl, hlt, h4, h5⟩ := h3 i a hi
  exact ⟨b, o, rfl, Nat.lt_of_lt_of_le hlt hb.size, hb.keep h4, h5⟩
theorem RT.below (hb : Ext w w') : ∀ {k : Nat} {t : Tm} {va vc : Value}, RT w k t va vc -> RT w' k t va vc
  | 0, _, _, _, h => h.elim
  | k + 1, t, va, vc, ⟨h0, ⟨A, c, e1, h1, h2, h3⟩, ⟨B, d, e2, h4, h5, h6⟩⟩ =>
    ⟨h0, ⟨A, c, e1, h1, h2, fun i x hi => by
      obtain ⟨b, o, xa, xc, e, hlt, hc, hr⟩ := h3 i x hi
      exact ⟨b, o, xa, xc, e, Nat.lt_of_lt_of_le hlt hb.size, hc.below hb, hr.below hb⟩⟩,
    ⟨B, d, e2, h4, h5, fun i x hi => by
      obtain ⟨b, o, vn, xa, xc, e, hlt, hn, hs, hc, hr⟩ := h6 i x hi
      exact ⟨b, o, vn, xa, xc, e, Nat.lt_of_lt_of_le hlt hb.size, hb.keep hn, hs.below hb, hc.below hb, hr.below hb⟩⟩⟩
theorem RPrms.below {l : List Prm} (h : RPrms w v l) (hb : Ext w w') : RPrms w' v l := by
  obtain ⟨A, c, rfl, h1, h2, h3⟩ := h
  refine ⟨A, c, rfl, h1, h2, fun i a hi => ?_⟩
  obtain ⟨b, o, rfl, hlt, h4, h5, h6⟩ := h3 i a hi
  exact ⟨b, o, rfl, Nat.lt_of_lt_of_le hlt hb.size, hb.keep h4, hb.keep h5, h6⟩
theorem RFns.below {l : List Fn} (h : RFns w v l) (hb : Ext w w') : RFns w' v l := by
  obtain ⟨A, c, rfl, h1, h2, h3⟩ := h
  refine ⟨A, c, rfl, h1, h2, fun i a hi => ?_⟩
  obtain ⟨b, o, vp, xa, xc, k, rfl, hlt, h4, h5, h6, h7, h8, h9, h10⟩ := h3 i a hi
  exact ⟨b, o, vp, xa, xc, k, rfl, Nat.lt_of_lt_of_le hlt hb.size, hb.keep h4, hb.keep h5, hb.keep h6, h7.below hb, h8, h9.below hb, h10.below hb⟩
theorem RStrs.form {l : List Str} (h : RStrs w v l) : ∃ A c, v = .slice A l.length c /\ l.length <= c /\ c <= maxLen := by
  obtain ⟨A, c, h1, h2, h3, _⟩ := h; exact ⟨A, c, h1, h2, h3⟩
theorem RPrms.form {l : List Prm} (h : RPrms w v l) : ∃ A c, v = .slice A l.length c /\ l.length <= c /\ c <= maxLen := by
  obtain ⟨A, c, h1, h2, h3, _⟩ := h; exact ⟨A, c, h1, h2, h3⟩
theorem RFns.form {l : List Fn} (h : RFns w v l) : ∃ A c, v = .slice A l.length c /\ l.length <= c /\ c <= maxLen := by
  obtain ⟨A, c, h1, h2, h3, _⟩ := h; exact ⟨A, c, h1, h2, h3⟩
theorem RT.form {k : Nat} {t : Tm} {va vc : Value} (h : RT w k t va vc) : (t.nm.size <= maxLen /\ ok64 t.n /\ ok64 t.ty) /\ (∃ A c, va = .slice A t.args.length c /\ t.args.length <= c /\ c <= maxLen) /\ (∃ B c, vc = .slice B t.cls.length c /\ t.cls.length <= c /\ c <= maxLen) := by
  cases k with
  | zero => exact h.elim
  | succ k =>
    obtain ⟨h0, ⟨A, c, e1, h1, h2, _⟩, ⟨B, d, e2, h4, h5, _⟩⟩ := h
    exact ⟨h0, ⟨A, c, e1, h1, h2⟩, ⟨B, d, e2, h4, h5⟩⟩
theorem RT.arg {k : Nat} {t : Tm} {A : Option Addr} {c : Nat} {vc : Value} (h : RT w (k + 1) t (.slice A t.args.length c) vc) {i : Nat} (hi : i < t.args.length) :
    ∃ b o xa xc, A = some ⟨b, o, none⟩ /\ b < w.heap.size /\ C6 w b (o + i * 6) t.args[i] xa xc /\ RT w k t.args[i] xa xc := by
  obtain ⟨h0, ⟨A', c', e1, h1, h2, h3⟩, _⟩ := h
  cases e1
  exact h3 i _ (List.getElem?_eq_getElem hi)
theorem RT.clause {k : Nat} {t : Tm} {B : Option Addr} {c : Nat} {va : Value} (h : RT w (k + 1) t va (.slice B t.cls.length c)) {i : Nat} (hi : i < t.cls.length) :
    ∃ b o vn xa xc, B = some ⟨b, o, none⟩ /\ b < w.heap.size /\ w.cell? ⟨b, o + i * 7, none⟩ = some vn /\ RStrs w vn t.cls[i].1 /\ C6 w b (o + i * 7 + 1) t.cls[i].2 xa xc /\ RT w k t.cls[i].2 xa xc := by
  obtain ⟨h0, _, ⟨A', c', e1, h1, h2, h3⟩⟩ := h
  cases e1
  exact h3 i _ (List.getElem?_eq_getElem hi)
theorem RStrs.at_ {l : List Str} {A : Option Addr} {c : Nat} (h : RStrs w (.slice A l.length c) l) {k : Nat} (hk : k < l.length) :
    ∃ b o, A = some ⟨b, o, none⟩ /\ b < w.heap.size /\ w.cell? ⟨b, o + k, none⟩ = some (.string l[k]) /\ l[k].size <= maxLen := by
  obtain ⟨A', c', he, h1, h2, h3⟩ := h
  cases he
  exact h3 k _ (List.getElem?_eq_getElem hk)
theorem RPrms.at_ {l : List Prm} {A : Option Addr} {c : Nat} (h : RPrms w (.slice A l.length c) l) {k : Nat} (hk : k < l.length) :
    ∃ b o, A = some ⟨b, o, none⟩ /\ b < w.heap.size /\ w.cell? ⟨b, o + k * 2, none⟩ = some (.string l[k].nm) /\ w.cell? ⟨b, o + k * 2 + 1, none⟩ = some (.int .i64 l[k].ty) /\ l[k].nm.size <= maxLen := by
  obtain ⟨A', c', he, h1, h2, h3⟩ := h
  cases he
  exact h3 k _ (List.getElem?_eq_getElem hk)
theorem RFns.at_ {l : List Fn} {A : Option Addr} {c : Nat} (h : RFns w (.slice A l.length c) l) {i : Nat} (hk : i < l.length) :
    ∃ b o vp xa xc k, A = some ⟨b, o, none⟩ /\ b < w.heap.size /\ w.cell? ⟨b, o + i * 9, none⟩ = some (.string l[i].nm) /\ w.cell? ⟨b, o + i * 9 + 1, none⟩ = some vp /\ w.cell? ⟨b, o + i * 9 + 2, none⟩ = some (.int .i64 l[i].res) ∧
      C6 w b (o + i * 9 + 3) l[i].body xa xc /\ l[i].nm.size <= maxLen /\ RPrms w vp l[i].ps /\ RT w k l[i].body xa xc := by
  obtain ⟨A', c', he, h1, h2, h3⟩ := h
  cases he
  exact h3 i _ (List.getElem?_eq_getElem hk)
end
end Go.Proofs.YtkdglplfcpindaaGreatDoor

namespace Go.Proofs.YtkdglplfcpindaaGreatDoor
open Go.RowKit
abbrev fldV (a b c : Bool) (n m : Int) : Value := .agg #[.bool a, .bool b, .bool c, .int .i64 n, .int .i64 m]
theorem isIndex_any (i n : Int) (w : World) : Calls Tryz.prog 153 #[.int .i64 i, .int .i64 n] w fun e w' => e = .returned (.bool (isIdxB i n)) /\ w = w' := by
  unfold isIdxB
  go_enter Tryz.func153, Tryz.ntmps153
  by_cases h : 0 <= i
  all_goals
    go_wp2
    go_ret
    exact ⟨rB (by simp [h]; try omega), rfl⟩
theorem isType_any (vd vf : Value) (P : Pg) (ty : Int) (w : World) (h : RDecls w vd P.decls) :
    Calls Tryz.prog 105 #[pV vd vf, .int .i64 ty] w fun e w' => e = .returned (.bool (isTypeB P ty)) /\ Ext w w' := by
  obtain ⟨A, c, rfl, hc, hm⟩ := h.form
  clear h
  unfold isTypeB maxLen at *
  go_enter Tryz.func105, Tryz.ntmps105
  by_cases h : 0 <= ty
  all_goals
    go_wp2
    go_ret
    exact ⟨rB (by simp [h]; try omega), Ext.al _ _⟩
set_option maxHeartbeats 4000000 in
theorem has_any (k : Nat) (t : Tm) (va vc : Value) (a b c : Bool) (n m : Int) (w : World) (h : RT w k t va vc) :
    Calls Tryz.prog 149 #[tV t va vc, fldV a b c n m] w fun e w' => e = .returned (.bool (hasF t a b c n m)) /\ Ext w w' := by
  obtain ⟨_, ⟨A, ca, rfl, hc, hm⟩, ⟨B, cb, rfl, hc2, hm2⟩⟩ := h.form
  clear h
  have HF : Hid (hasF t a b c n m = ((a || decide (t.n = 0)) && (b || emptyB t.nm) && (c || decide (t.ty = 0)) && decide ((t.args.length : Int) = n) && decide ((t.cls.length : Int) = m))) := rfl
  unfold maxLen at *
  go_enter Tryz.func149, Tryz.ntmps149
  go_wp2
  all_goals
    go_ret
    refine ⟨rB ?_, (Ext.al _ _).tr (Ext.al _ _)⟩
    rw [HF.out]
    simp [emptyB, *]
    try (apply Bool.eq_iff_iff.2; simp)
end Go.Proofs.YtkdglplfcpindaaGreatDoor

namespace Go.Proofs.YtkdglplfcpindaaGreatDoor
open Go.RowKit
structure ExtOf (w0 : World) where
  val : World
  ext : Ext w0 val
instance (w0 : World) : Nonempty (ExtOf w0) := ⟨⟨w0, Ext.rf _⟩⟩
instance (w0 : World) : Inhabited (ExtOf w0) := ⟨⟨w0, Ext.rf _⟩⟩
theorem ExtOf.cell {w0 : World} {a : Addr} {v : Value} (h : w0.cell? a = some v) (p : ExtOf w0) : p.val.cell? a = some v := p.ext.keep h
theorem wRE {P : Program} {id : Nat} {Q : Exit -> Act -> World -> Prop} {a : Act} {w w0 : World} {l : List Oper} (hm : P.follows .mixedOrders = true) (hB : Region.lexB .any l.toArray = true) (h0 : Ext w0 w)
    (h : wpQuiet P l.toArray (fun w' => ∃ p : ExtOf w0, w' = p.val) (fun a' => ∀ w', (∃ p : ExtOf w0, w' = p.val) -> Q .normal a' w') l a) : (Code.region id l.toArray true).wp P Q a w :=
  wp_region_quiet (C := fun w' => ∃ p : ExtOf w0, w' = p.val) hm hB ⟨⟨_, h0.drew⟩, rfl⟩ (by simpa using h)
theorem Calls.ext_of {P : Program} {f : FuncId} {args : Array Value} {w0 : World} {p : ExtOf w0} {v : Value} (h : Calls P f args p.val fun e w' => e = .returned v /\ Ext p.val w') :
    Calls P f args p.val fun e w'' => e = .returned v /\ ∃ q : ExtOf w0, w'' = q.val :=
  h.mono fun _ w' ⟨he, hx⟩ => ⟨he, ⟨w', p.ext.tr hx⟩, rfl⟩
theorem Calls.ext_same {P : Program} {f : FuncId} {args : Array Value} {w0 : World} {p : ExtOf w0} {v : Value} (h : Calls P f args p.val fun e w' => e = .returned v /\ p.val = w') :
    Calls P f args p.val fun e w'' => e = .returned v /\ ∃ q : ExtOf w0, w'' = q.val :=
  h.mono fun _ _w' ⟨he, hx⟩ => ⟨he, p, hx.symm⟩
end Go.Proofs.YtkdglplfcpindaaGreatDoor
