import Derived.Test.YtkdglplfcpindaaGreatDoorQ10
import Derived.OwnWalk
import Derived.Maps.AppendAt
import Derived.Carry
import Derived.MapKept
import Derived.Laws.StructEq
set_option maxRecDepth 100000
namespace Go.Proofs.YtkdglplfcpindaaGreatDoor
open Go.RowKit
abbrev OwnL (w : World) (B : Nat) (v : Value) (l : List Int) : Prop := w.ownsRow B 3 1 v l.length (l.map (Value.int .i64))
theorem eqL_cons (a b : Int) (l m : List Int) : eqL (a :: l) (b :: m) = (decide (a = b) && eqL l m) := rfl
theorem eqL_len : ∀ (a b : List Int), ¬ a.length = b.length -> eqL a b = false
  | [], [], h => by simp at h
  | [], _ :: _, _ => rfl
  | _ :: _, [], _ => rfl
  | x :: a, y :: b, h => by rw [eqL_cons, eqL_len a b (by simpa using h), Bool.and_false]
theorem oSL {w : World} {B e size n : Nat} {v : Value} {xs : List Value} (h : w.ownsRow B e size v n xs) : ∃ A c, v = .slice A n c := by
  rcases h.2 with ⟨rfl, rfl⟩ | ⟨g, cap, _, hv, _⟩
  . exact ⟨none, 0, rfl⟩
  . exact ⟨_, cap, hv⟩
set_option maxHeartbeats 2000000 in
theorem equal_ints_any (v v' : Value) (a b : List Int) (w : World) (h : RInts w v a) (h' : RInts w v' b) :
    Calls Tryz.prog 145 #[v, v'] w fun e w' => e = .returned (.bool (eqL a b)) /\ Ext w w' := by
  have HR := LH h
  have HR' := LH h'
  have hmx : Tryz.prog.follows .mixedOrders = true := by kernel_rfl
  obtain ⟨A, c, rfl, hc, hm⟩ := h.form
  obtain ⟨A', c', rfl, hc', hm'⟩ := h'.form
  clear h h'
  unfold maxLen at hm hm'
  go_enter Tryz.func145, Tryz.ntmps145
  by_cases hl : a.length = b.length
  . have HL := LH hl
    have hlt' : ((a.length : Int) == b.length) = true := by simp [hl]
    have hlt2 : ((a.length : Int) != b.length) = false := by simp [hl]
    have hle : a.length <= b.length := by omega
    clear hl
    go_wp2
    go_loopw [13] (fun i wr => ∃ k : Nat, k <= a.length /\ i = .int .i64 k /\ Ext w wr /\ eqL a b = eqL (a.drop k) (b.drop k)) (fun i _ => a.length - (intOf i).toNat)
    case atStart => exact ⟨0, Nat.zero_le _, rfl, Ext.rf _, rfl⟩
    case round =>
      obtain ⟨k, hk, rfl, hb, hno⟩ := hrel
      have HN := LH hno; have HB := LH hb
      clear hno hb
      by_cases hlt : k < a.length
      . obtain ⟨b1, o1, rfl, hbl1, g0⟩ := HR.out.at_ hlt
        obtain ⟨b2, o2, rfl, hbl2, f0⟩ := HR'.out.at_ (k := k) (by omega)
        have g0 := ExtOf.cell (HB.out.keep g0)
        have f0 := ExtOf.cell (HB.out.keep f0)
        have HD := LH (dS hlt)
        have HD' := LH (dS (l := b) (k := k) (by omega))
        generalize a[k] = x at *
        generalize b[k] = y at *
        have hk2 : k < b.length := by omega
        by_cases hxy : x = y
        . have hq : (x != y) = false := by simp [hxy]
          have HQ : Hid (decide (x = y) = true) := decide_eq_true hxy
          clear hxy
          go_wp2
          refine wRE (w0 := wr) hmx (by kernel_rfl) (Ext.rf _) ?_
          repeat (first | go_big_quiet_step (fail) | quiet_step (fail))
          refine wpQuiet_nil ?_
          rintro _ ⟨⟨w9, hx⟩, rfl⟩
          have HX9 := LH (HB.out.tr hx)
          clear hx
          go_wp2
          go_roundw
          case rel => exact ⟨k + 1, by omega, by go_num, HX9.out, by rw [HN.out, HD.out, HD'.out, eqL_cons, HQ.out]; rfl⟩
          case measure => simp [intOf]; omega
        . have hq : (x != y) = true := by simp [hxy]
          have HQ : Hid (decide (x = y) = false) := decide_eq_false hxy
          clear hxy
          go_wp2
          refine wRE (w0 := wr) hmx (by kernel_rfl) (Ext.rf _) ?_
          repeat (first | go_big_quiet_step (fail) | quiet_step (fail))
          refine wpQuiet_nil ?_
          rintro _ ⟨⟨w9, hx⟩, rfl⟩
          have HX9 := LH (HB.out.tr hx)
          clear hx
          go_wp2
          go_ret
          exact ⟨rB (by rw [HN.out, HD.out, HD'.out, eqL_cons, HQ.out]; rfl), HX9.out⟩
      . go_wp2
        go_ret
        have hlb : ¬ k < b.length := by have := HL.out; omega
        exact ⟨rB (by rw [HN.out, drop_end hlt, drop_end hlb]; rfl), HB.out⟩
  . have hlt' : ((a.length : Int) == b.length) = false := by simp; omega
    have hlt2 : ((a.length : Int) != b.length) = true := by simp; omega
    have HQ := LH (eqL_len a b hl)
    go_wp2
    go_ret
    exact ⟨rB HQ.out.symm, Ext.rf _⟩
set_option maxHeartbeats 2000000 in
theorem same_ints_any (v v' : Value) (a b : List Int) (w : World) (h : RInts w v a) (h' : RInts w v' b) :
    Calls Tryz.prog 19 #[v, v'] w fun e w' => e = .returned (.bool (eqL a b)) /\ Ext w w' := by
  have HR := LH h
  have HR' := LH h'
  have hmx : Tryz.prog.follows .mixedOrders = true := by kernel_rfl
  obtain ⟨A, c, rfl, hc, hm⟩ := h.form
  obtain ⟨A', c', rfl, hc', hm'⟩ := h'.form
  clear h h'
  unfold maxLen at hm hm'
  go_enter Tryz.func19, Tryz.ntmps19
  by_cases hl : a.length = b.length
  . have HL := LH hl
    have hlt' : ((a.length : Int) == b.length) = true := by simp [hl]
    have hlt2 : ((a.length : Int) != b.length) = false := by simp [hl]
    have hle : a.length <= b.length := by omega
    clear hl
    go_wp2
    go_loopw [13] (fun i wr => ∃ k : Nat, k <= a.length /\ i = .int .i64 k /\ Ext w wr /\ eqL a b = eqL (a.drop k) (b.drop k)) (fun i _ => a.length - (intOf i).toNat)
    case atStart => exact ⟨0, Nat.zero_le _, rfl, Ext.rf _, rfl⟩
    case round =>
      obtain ⟨k, hk, rfl, hb, hno⟩ := hrel
      have HN := LH hno; have HB := LH hb
      clear hno hb
      by_cases hlt : k < a.length
      . obtain ⟨b1, o1, rfl, hbl1, g0⟩ := HR.out.at_ hlt
        obtain ⟨b2, o2, rfl, hbl2, f0⟩ := HR'.out.at_ (k := k) (by omega)
        have g0 := ExtOf.cell (HB.out.keep g0)
        have f0 := ExtOf.cell (HB.out.keep f0)
        have HD := LH (dS hlt)
        have HD' := LH (dS (l := b) (k := k) (by omega))
        generalize a[k] = x at *
        generalize b[k] = y at *
        have hk2 : k < b.length := by omega
        by_cases hxy : x = y
        . have hq : (x != y) = false := by simp [hxy]
          have HQ : Hid (decide (x = y) = true) := decide_eq_true hxy
          clear hxy
          go_wp2
          refine wRE (w0 := wr) hmx (by kernel_rfl) (Ext.rf _) ?_
          repeat (first | go_big_quiet_step (fail) | quiet_step (fail))
          refine wpQuiet_nil ?_
          rintro _ ⟨⟨w9, hx⟩, rfl⟩
          have HX9 := LH (HB.out.tr hx)
          clear hx
          go_wp2
          go_roundw
          case rel => exact ⟨k + 1, by omega, by go_num, HX9.out, by rw [HN.out, HD.out, HD'.out, eqL_cons, HQ.out]; rfl⟩
          case measure => simp [intOf]; omega
        . have hq : (x != y) = true := by simp [hxy]
          have HQ : Hid (decide (x = y) = false) := decide_eq_false hxy
          clear hxy
          go_wp2
          refine wRE (w0 := wr) hmx (by kernel_rfl) (Ext.rf _) ?_
          repeat (first | go_big_quiet_step (fail) | quiet_step (fail))
          refine wpQuiet_nil ?_
          rintro _ ⟨⟨w9, hx⟩, rfl⟩
          have HX9 := LH (HB.out.tr hx)
          clear hx
          go_wp2
          go_ret
          exact ⟨rB (by rw [HN.out, HD.out, HD'.out, eqL_cons, HQ.out]; rfl), HX9.out⟩
      . go_wp2
        go_ret
        have hlb : ¬ k < b.length := by have := HL.out; omega
        exact ⟨rB (by rw [HN.out, drop_end hlt, drop_end hlb]; rfl), HB.out⟩
  . have hlt' : ((a.length : Int) == b.length) = false := by simp; omega
    have hlt2 : ((a.length : Int) != b.length) = true := by simp; omega
    have HQ := LH (eqL_len a b hl)
    go_wp2
    go_ret
    exact ⟨rB HQ.out.symm, Ext.rf _⟩
end Go.Proofs.YtkdglplfcpindaaGreatDoor

namespace Go.Proofs.YtkdglplfcpindaaGreatDoor
open Go.RowKit
theorem oB {w w' : World} {B : Nat} {e : TypeId} {k : Nat} {v : Value} {n : Nat} {xs : List Value} (h : w.ownsRow B e k v n xs) (hb : Ext w w') : w'.ownsRow B e k v n xs :=
  h.kept (row := none) ⟨hb.os, hb.tape, hb.output, hb.size, fun j hj _ => hb.block j hj⟩ (by cases hv : v.ownBlock <;> simp)
theorem own_base {w : World} {B B' : Nat} {e : TypeId} {k : Nat} {v : Value} {n : Nat} {xs : List Value} (h : w.ownsRow B e k v n xs) (hb : B' <= B) : w.ownsRow B' e k v n xs :=
  ⟨h.1, h.2.elim Or.inl (fun ⟨g, cap, cur, hv, hg, r⟩ => Or.inr ⟨g, cap, cur, hv, Nat.le_trans hb hg, r⟩)⟩
theorem grown_ext' {w w' : World} {v : Value} {B e size : Nat} {n : Nat} {xs : List Value} (hg : w.grownBy w' v.ownBlock) (hv : w.ownsRow B e size v n xs) (hB : B <= w.heap.size) : Below B w w' :=
  Below.grown (Below.refl _ _) hg hB (fun j e => (hv.lt j e).1)
theorem run_append_nil {w : World} {base : Nat} {t ty e : TypeId} {i : TypeInfo} {size c : Nat} (ht : Tryz.prog.underlying t = some (.slice e)) (hi : Tryz.prog.info? e = some i) {v : Value} {n : Nat} {xs : List Value} (hown : w.ownsRow base e size v n xs) :
    (Builtin.append_ #[t, t] ty #[v, .slice none 0 c]).run Tryz.prog w = .ok v w := by
  rcases hown.2 with ⟨rfl, rfl⟩ | ⟨g, cap, cur, rfl, _, _, hnc, _⟩
  . simp [Builtin.append_, run_underlying ht, sizeOf, typeInfo, hi, Builtin.lenOf, Builtin.firstCells]
  . simp [Builtin.append_, run_underlying ht, sizeOf, typeInfo, hi, Builtin.lenOf, Builtin.firstCells, hnc, storeCells]
def SrcN (w : World) (A : Option Addr) (m size : Nat) (news : List Value) : Prop :=
  (A = none /\ m = 0 /\ news = []) ∨ ∃ ad, A = some ad /\ news.length = m * size /\ ∀ (j : Nat) u, news[j]? = some u -> w.cell? (ad.add j) = some u
theorem app_row {t e size bytes : Nat} {z : Value} (hu : Tryz.prog.underlying t = some (.slice e)) (hinf : (Tryz.prog.info? e).map (fun i => (i.zero, i.size, i.bytes)) = some (some z, size, bytes)) (hzs : z.cells.size = size) (hsz : 0 < size)
    {w : World} {o : Oper} {a : Act} {K : Act -> World -> Prop} {Q : Exit -> Act -> World -> Prop} (s x : Operand)
    (ho : o.op = .call { callee := .builtin .append, args := #[s, x], argTypes := #[t, t] })
    (B : Nat) (v : Value) (n : Nat) (xs : List Value) (hs : a.eval s = v) (hown : w.ownsRow B e size v n xs)
    (A : Option Addr) (m c : Nat) (news : List Value) (hx : a.eval x = .slice A m c) (hsrc : SrcN w A m size news) (h1 : ∀ u ∈ news, u.oneCell' = true)
    (hnm : n + m <= maxLen) (hby : (n + m) * bytes <= 140737488355328) (hB : B <= w.heap.size)
    (h : ∀ v' w', w'.ownsRow B e size v' (n + m) (xs ++ news) -> w.grownBy w' v.ownBlock -> (v'.ownBlock = v.ownBlock ∨ v'.ownBlock = some w.heap.size) -> K (a.put o.dst v') w') : o.wp Tryz.prog a w K Q := by
  obtain ⟨i0, hi1, hz0, hz1, hz2⟩ := info_parts hinf
  rcases hsrc with ⟨rfl, rfl, rfl⟩ | ⟨ad, rfl, hl, hc⟩
  . have hr := run_append_nil (c := c) (ty := o.type) hu hi1 hown
    have hk := h v w (by simpa using hown) (World.grownBy.refl w _) (.inl rfl)
    unfold Oper.wp execOp
    simp only [ho, resolve, invoke, builtin, Sem.run_bind, Sem.run_pure, Result.andThen_ok, List.map_toArray, List.map_cons, List.map_nil, hs, hx, hr]
    exact hk
  . obtain ⟨v', w', hr, h2, h3, _, h5⟩ := run_append_own_at (P := Tryz.prog) w B t o.type e i0 z size bytes hu hi1 hz0 hz1 hz2 hzs hsz v n xs hown ad m c news hl hc h1 hnm hby hB
    unfold Oper.wp execOp
    simp only [ho, resolve, invoke, builtin, Sem.run_bind, Sem.run_pure, Result.andThen_ok, List.map_toArray, List.map_cons, List.map_nil, hs, hx, hr]
    exact h v' w' h2 h3 h5
theorem add_at (b o k : Nat) : (⟨b, o, none⟩ : Addr).add k = ⟨b, o + k, none⟩ := by
  by_cases hk : k = 0 <;> simp [Addr.add, hk]
theorem RStrs.src {w : World} {A : Option Addr} {c : Nat} {l : List Str} (h : RStrs w (.slice A l.length c) l) : SrcN w A l.length 1 (l.map Value.string) := by
  cases A with
  | none =>
    cases l with
    | nil => exact .inl ⟨rfl, rfl, rfl⟩
    | cons a r =>
      obtain ⟨_, _, hA, _⟩ := h.at_ (k := 0) (by simp)
      cases hA
  | some ad =>
    refine .inr ⟨ad, rfl, by simp, fun j u hu => ?_⟩
    rw [List.getElem?_map] at hu
    obtain ⟨s, hs, rfl⟩ := Option.map_eq_some_iff.1 hu
    obtain ⟨hlt, rfl⟩ := List.getElem?_eq_some_iff.1 hs
    obtain ⟨b, o, hA, _, c0, _⟩ := h.at_ hlt
    cases hA
    rw [add_at]; exact c0
theorem strs_one (l : List Str) : ∀ u ∈ l.map Value.string, u.oneCell' = true := by
  intro u hu
  obtain ⟨s, _, rfl⟩ := List.mem_map.1 hu
  rfl
theorem app_strs {w : World} {ops : Array Oper} {rest : List Oper} {o : Oper} {a : Act} {Q : Exit -> Act -> World -> Prop} (hgd : o.guard = none) (s x : Operand)
    (ho : o.op = .call { callee := .builtin .append, args := #[s, x], argTypes := #[67, 67] }) (B : Nat) (v : Value) (l1 : List Str) (hs : a.eval s = v) (hown : w.ownsRow B 9 1 v l1.length (l1.map Value.string))
    (x' : Value) (l2 : List Str) (hx : a.eval x = x') (hr : RStrs w x' l2) (hn : l1.length + l2.length <= 1000000000) (hB : B <= w.heap.size)
    (h : ∀ v' w', w'.ownsRow B 9 1 v' (l1 ++ l2).length ((l1 ++ l2).map Value.string) -> w.grownBy w' v.ownBlock -> wpList Tryz.prog ops Q rest (a.put o.dst v') w') : wpList Tryz.prog ops Q (o :: rest) a w := by
  obtain ⟨A, c, rfl, -, -⟩ := hr.form
  refine wpList_plain hgd fun K hK => app_row (t := 67) (e := 9) (size := 1) (bytes := 16) Tryz.underlying67 Tryz.info9 rfl (by decide) s x ho B v l1.length (l1.map Value.string) hs hown A l2.length c (l2.map Value.string) hx hr.src (strs_one l2) (by unfold maxLen; omega) (by omega) hB (fun v' w' h1 h2 _ => hK _ _ (h v' w' ?_ h2))
  rw [List.length_append, List.map_append]; exact h1
theorem own_nil {w : World} {B : Nat} : w.ownsRow B 9 1 (.slice none 0 0) ([] : List Str).length (([] : List Str).map Value.string) := ⟨by simp, .inl ⟨rfl, rfl⟩⟩
theorem grown_ext {w w' : World} {v : Value} {B : Nat} {n : Nat} {xs : List Value} (hg : w.grownBy w' v.ownBlock) (hv : w.ownsRow B 9 1 v n xs) (hB : B <= w.heap.size) : Below B w w' :=
  Below.grown (Below.refl _ _) hg hB (fun j e => (hv.lt j e).1)
end Go.Proofs.YtkdglplfcpindaaGreatDoor

namespace Go.Proofs.YtkdglplfcpindaaGreatDoor
open Go.RowKit
def SetAt (w : World) (b : Nat) (S : List ByteArray) : Prop :=
  ∃ es clock, w.heap[b]? = some (.map es clock) /\ es.toList.map MapEntry.key = S.map Value.string /\ ∀ e ∈ es.toList, e.val = .bool true
theorem findNow_set (k : ByteArray) : ∀ (es : List MapEntry) (S : List ByteArray) (i : Nat), es.map MapEntry.key = S.map Value.string -> (∀ e ∈ es, e.val = .bool true) →
    (hasS S k = true -> ∃ j, Instr.findNow .string (.string k) es i = some (some (j, .bool true))) /\ (hasS S k = false -> Instr.findNow .string (.string k) es i = some none)
  | [], [], i, _, _ => ⟨fun h => by simp [hasS] at h, fun _ => rfl⟩
  | [], _ :: _, i, h, _ => by simp at h
  | _ :: _, [], i, h, _ => by simp at h
  | e :: es, s :: S, i, h, hv => by
    simp only [List.map_cons, List.cons.injEq] at h
    obtain ⟨h1, h2⟩ := h
    have ih := findNow_set k es S (i + 1) h2 (fun e he => hv e (List.mem_cons_of_mem _ he))
    have hval := hv e (List.mem_cons_self ..)
    have hh : hasS (s :: S) k = ((k.toList == s.toList) || hasS S k) := rfl
    unfold Instr.findNow
    rw [h1, hh]
    simp only [Instr.sameNow, beq_toListBytes]
    cases hk : (k.toList == s.toList)
    . simpa using ih
    . simp [hval]
theorem run_lookup_set (t : TypeId) (kt vt : TypeId) (P : Program) (ht : P.underlying t = some (.map kt vt)) (hk : P.underlying kt = some .string) (w : World) (hz : (zeroValue vt).run P w = .ok (.bool false) w)
    (b : Nat) (S : List ByteArray) (h : SetAt w b S) (k : ByteArray) :
    (Instr.lookup t (.map (some b)) (.string k) false).run P w = .ok (.bool (hasS S k)) w := by
  obtain ⟨es, clock, hb, hkeys, hv⟩ := h
  obtain ⟨f1, f2⟩ := findNow_set k es.toList S 0 hkeys hv
  have hkey : MapKept.IsKey .string (.string k) := by simp [MapKept.IsKey]
  cases hc : hasS S k
  . have hf := f2 hc
    simp [Instr.lookup, run_underlying ht, MapKept.run_getObj_map hb, MapKept.run_checkKey hk hkey, MapKept.run_findKey hk hf, Result.andThen, hz]
  . obtain ⟨j, hf⟩ := f1 hc
    simp [Instr.lookup, run_underlying ht, MapKept.run_getObj_map hb, MapKept.run_checkKey hk hkey, MapKept.run_findKey hk hf, Result.andThen]
theorem run_update_set (t : TypeId) (kt vt : TypeId) (P : Program) (ht : P.underlying t = some (.map kt vt)) (hk : P.underlying kt = some .string) (w : World)
    (b : Nat) (S : List ByteArray) (h : SetAt w b S) (k : ByteArray) (hn : hasS S k = false) :
    ∃ w', (Instr.mapUpdate t (.map (some b)) (.string k) (.bool true)).run P w = .ok () w' /\ SetAt w' b (S ++ [k]) /\ Below b w w' /\ (∀ j, j ≠ b -> w'.heap[j]? = w.heap[j]?) /\ w'.heap.size = w.heap.size := by
  obtain ⟨es, clock, hb, hkeys, hv⟩ := h
  obtain ⟨f1, f2⟩ := findNow_set k es.toList S 0 hkeys hv
  have hf := f2 hn
  have hlt : b < w.heap.size := (Array.getElem?_eq_some_iff.1 hb).1
  have hkey : MapKept.IsKey .string (.string k) := by simp [MapKept.IsKey]
  refine ⟨{ w with heap := w.heap.setIfInBounds b (.map (es.push { key := .string k, val := .bool true, born := clock }) (clock + 1)) }, ?_, ⟨es.push { key := .string k, val := .bool true, born := clock }, clock + 1, ?_, ?_, ?_⟩, ?_, ?_, ?_⟩
  . simp [Instr.mapUpdate, run_underlying ht, MapKept.run_getObj_map hb, MapKept.run_checkKey hk hkey, MapKept.run_findKey hk hf, MapKept.run_setObj_map _ hb, Result.andThen]
  . simp [hlt]
  . simp [hkeys]
  . intro e he
    simp at he
    rcases he with he | rfl
    . exact hv e (by simpa using he)
    . rfl
  . exact ⟨rfl, rfl, rfl, by simp, fun j hj => by simp [Array.getElem?_setIfInBounds]; omega⟩
  . intro j hj
    simp [Array.getElem?_setIfInBounds]
    omega
  . simp
theorem SetAt.new (w : World) : SetAt (w.alloc (.map #[] 0)) w.heap.size [] := ⟨#[], 0, (MapKept.heap_alloc w _).1, rfl, by simp⟩
theorem SetAt.lt {w : World} {b : Nat} {S : List ByteArray} (h : SetAt w b S) : b < w.heap.size := by
  obtain ⟨es, clock, hb, _⟩ := h
  exact (Array.getElem?_eq_some_iff.1 hb).1
theorem SetAt.ext {w w' : World} {b : Nat} {S : List ByteArray} (h : SetAt w b S) (hb : Ext w w') : SetAt w' b S := by
  have hlt := h.lt
  obtain ⟨es, clock, he, h1, h2⟩ := h
  exact ⟨es, clock, (hb.block b hlt).trans he, h1, h2⟩
structure ExtBut (b : Nat) (w w' : World) : Prop where
  os : w'.os = w.os
  tape : w'.tape = w.tape
  output : w'.output = w.output
  size : w.heap.size <= w'.heap.size
  block : ∀ k, k < w.heap.size -> k ≠ b -> w'.heap[k]? = w.heap[k]?
theorem ExtBut.rf (b : Nat) (w : World) : ExtBut b w w := ⟨rfl, rfl, rfl, Nat.le_refl _, fun _ _ _ => rfl⟩
theorem Ext.but {w w' : World} (h : Ext w w') (b : Nat) : ExtBut b w w' := ⟨h.os, h.tape, h.output, h.size, fun k hk _ => h.block k hk⟩
theorem ExtBut.tr {b : Nat} {w1 w2 w3 : World} (h : ExtBut b w1 w2) (k : ExtBut b w2 w3) : ExtBut b w1 w3 :=
  ⟨k.os.trans h.os, k.tape.trans h.tape, k.output.trans h.output, Nat.le_trans h.size k.size, fun i hi hn => (k.block i (Nat.lt_of_lt_of_le hi h.size) hn).trans (h.block i hi hn)⟩
theorem ExtBut.cell {b : Nat} {w w' : World} (h : ExtBut b w w') {p : Addr} {v : Value} (hv : w.cell? p = some v) (hp : p.block ≠ b) : w'.cell? p = some v :=
  (World.cell?_of_block (w := w) (h.block p.block (cL hv) hp)).trans hv
theorem set_ne_cell {w : World} {b : Nat} {S : List ByteArray} (h : SetAt w b S) {p : Addr} {v : Value} (hv : w.cell? p = some v) : p.block ≠ b := by
  obtain ⟨es, clock, he, _⟩ := h
  rintro rfl
  unfold World.cell? at hv
  rw [he] at hv
  cases hv
theorem ExtBut.keep {b : Nat} {w w' : World} {S : List ByteArray} (h : ExtBut b w w') (hs : SetAt w b S) {p : Addr} {v : Value} (hv : w.cell? p = some v) : w'.cell? p = some v :=
  h.cell hv (set_ne_cell hs hv)
section
variable {w w' : World} {v : Value} {b : Nat} {S : List ByteArray}
theorem RArgs.but {l : List Arg} (h : RArgs w v l) (hb : ExtBut b w w') (hs : SetAt w b S) : RArgs w' v l := by
  obtain ⟨A, c, rfl, h1, h2, h3⟩ := h
  refine ⟨A, c, rfl, h1, h2, fun i a hi => ?_⟩
  obtain ⟨b, o, rfl, hlt, h4, h5⟩ := h3 i a hi
  exact ⟨b, o, rfl, Nat.lt_of_lt_of_le hlt hb.size, hb.keep hs h4, hb.keep hs h5⟩
theorem RXtors.but {l : List Xtor} (h : RXtors w v l) (hb : ExtBut b w w') (hs : SetAt w b S) : RXtors w' v l := by
  obtain ⟨A, c, rfl, h1, h2, h3⟩ := h
  refine ⟨A, c, rfl, h1, h2, fun i a hi => ?_⟩
  obtain ⟨b, o, va, rfl, hlt, h4, h5, h6, h7⟩ := h3 i a hi
  exact ⟨b, o, va, rfl, Nat.lt_of_lt_of_le hlt hb.size, hb.keep hs h4, hb.keep hs h5, h6.but hb hs, h7⟩
theorem RDecls.but {l : List Decl} (h : RDecls w v l) (hb : ExtBut b w w') (hs : SetAt w b S) : RDecls w' v l := by
  obtain ⟨A, c, rfl, h1, h2, h3⟩ := h
  refine ⟨A, c, rfl, h1, h2, fun i a hi => ?_⟩
  obtain ⟨b, o, va, rfl, hlt, h4, h5, h6, h7, h8⟩ := h3 i a hi
  exact ⟨b, o, va, rfl, Nat.lt_of_lt_of_le hlt hb.size, hb.keep hs h4, hb.keep hs h5, hb.keep hs h6, h7.but hb hs, h8⟩
end
theorem add_any (b : Nat) (S : List ByteArray) (k : ByteArray) (w : World) (h : SetAt w b S) :
    Calls Tryz.prog 136 #[.map (some b), .string k] w fun e w' => e = .returned (.bool (!hasS S k)) /\ SetAt w' b (if hasS S k then S else S ++ [k]) /\ ExtBut b w w' := by
  have hz : (zeroValue 4).run Tryz.prog w = .ok (.bool false) w := by kernel_rfl
  have hl := run_lookup_set 196 9 4 Tryz.prog Tryz.underlying196 Tryz.underlying9 w hz b S h k
  have HA := LH h
  clear h
  cases hc : hasS S k
  . rw [hc] at hl
    obtain ⟨w1, hu, hs, hb1, hoth, hsz⟩ := run_update_set 196 9 4 Tryz.prog Tryz.underlying196 Tryz.underlying9 w b S HA.out k hc
    have HS := LH hs; clear hs
    have HX : Hid (ExtBut b w w1) := ⟨hb1.os, hb1.tape, hb1.output, hb1.size, fun k _ hk => hoth k hk⟩
    clear hb1 hoth hsz hc hz
    go_enter Tryz.func136, Tryz.ntmps136
    go_wp2
    go_ret
    exact ⟨rfl, HS.out, HX.out⟩
  . rw [hc] at hl
    clear hc
    go_enter Tryz.func136, Tryz.ntmps136
    go_wp2
    go_ret
    exact ⟨rfl, HA.out, ExtBut.rf _ _⟩
end Go.Proofs.YtkdglplfcpindaaGreatDoor

namespace Go.Proofs.YtkdglplfcpindaaGreatDoor
open Go.RowKit
theorem hasConsumer_any (v : Value) (l : List Arg) (w : World) (h : RArgs w v l) :
    Calls Tryz.prog 126 #[v] w fun e w' => e = .returned (.bool (hasCo l)) /\ Below w.heap.size w w' := by
  have HR := LH h
  obtain ⟨A, c, rfl, hc, hm, hcell⟩ := h
  clear hcell
  unfold maxLen at hm
  go_enter Tryz.func126, Tryz.ntmps126
  go_wp2
  go_loopw [7] (fun i wr => ∃ k : Nat, k <= l.length /\ i = .int .i64 k /\ Below w.heap.size w wr /\ hasCo l = hasCo (l.drop k)) (fun i _ => l.length - (intOf i).toNat)
  case atStart => exact ⟨0, Nat.zero_le _, rfl, Below.refl _ _, rfl⟩
  case round =>
    obtain ⟨k, hk, rfl, hb, hno⟩ := hrel
    have HN := LH hno; have HB := LH hb; clear hno hb
    by_cases hlt : k < l.length
    . obtain ⟨b, o, rfl, hbl, h0, h1⟩ := HR.out.at_ hlt
      have HD := LH (dS hlt)
      have h0 := (HB.out.cell hbl).trans h0
      have h1 := (HB.out.cell hbl).trans h1
      generalize l[k] = a at *
      go_wp2
      . have q : a.co = true := by assumption
        go_ret
        exact ⟨rB (by rw [HN.out, HD.out]; simp [hasCo, q]), HB.out.alloc HB.out.size _⟩
      . have q : a.co = false := by assumption
        go_roundw
        case rel => exact ⟨k + 1, by omega, by go_num, HB.out.alloc HB.out.size _, by rw [HN.out, HD.out]; simp [hasCo, q]⟩
        case measure => simp [intOf]; omega
    . go_wp2
      go_ret
      exact ⟨rB (by rw [HN.out, drop_end hlt]; rfl), HB.out⟩
theorem ends_any (v : Value) (l : List Arg) (w : World) (h : RArgs w v l) :
    Calls Tryz.prog 125 #[v] w fun e w' => e = .returned (.bool (endsB l)) /\ Below w.heap.size w w' := by
  have HR := LH h
  obtain ⟨A, c, rfl, hc, hm, hcell⟩ := h
  clear hcell
  unfold maxLen at hm
  have HE : Hid (endsB l = (lastCo l && !hasCo (l.take (l.length - 1)))) := rfl
  by_cases h0 : 0 < l.length
  . obtain ⟨b, o, rfl, hbl, h1, h2⟩ := HR.out.at_ (k := l.length - 1) (by omega)
    have HL := LH (lastCo_eq h0)
    have HT := LH (HR.out.take (n := l.length - 1) (by omega))
    generalize l[l.length - 1] = a at *
    go_enter Tryz.func125, Tryz.ntmps125
    go_wp2_with (go_at_call 126; (with_reducible refine (hasConsumer_any _ _ _ HT.out).mono ?_); rintro e w' ⟨rfl, hb⟩)
    . have q : a.co = true := by assumption
      go_ret
      exact ⟨rB (by rw [HE.out, HL.out, q]; rfl), hb⟩
    . have q : ¬ a.co = true := by assumption
      go_ret
      exact ⟨rB (by rw [HE.out, HL.out]; simp [q]), Below.refl _ _⟩
  . have HL := LH (lastCo_nil h0)
    go_enter Tryz.func125, Tryz.ntmps125
    go_wp2
    go_ret
    exact ⟨rB (by rw [HE.out, HL.out]; rfl), Below.refl _ _⟩
theorem Consumers_any (va : Value) (x : Xtor) (w : World) (h : RArgs w va x.args) :
    Calls Tryz.prog 77 #[.agg #[.string x.name, va]] w fun e w' => e = .returned (.int .i64 (nCo x.args)) /\ Below w.heap.size w w' := by
  generalize x.args = l at *
  have HR := LH h
  obtain ⟨A, c, rfl, hc, hm, hcell⟩ := h
  clear hcell
  unfold maxLen at hm
  go_enter Tryz.func77, Tryz.ntmps77
  go_wp2
  have hB1 : Below w.heap.size w (w.alloc (Obj.cells #[Value.string x.name, Value.slice A l.length c] 140)) := (Below.refl _ _).alloc (Nat.le_refl _) _
  generalize w.alloc _ = w1 at *
  have HB1 := LH hB1; clear hB1
  have HR1 := LH (HR.out.below HB1.out)
  go_loopw [3, 9] (fun n i wr => ∃ (k q : Nat), k <= l.length /\ q <= k /\ i = .int .i64 k /\ n = .int .i64 q /\ Below w1.heap.size w1 wr /\ nCo l = q + nCo (l.drop k)) (fun _ i _ => l.length - (intOf i).toNat)
  case atStart => exact ⟨0, 0, Nat.zero_le _, Nat.le_refl _, rfl, rfl, Below.refl _ _, by simp⟩
  case round =>
    obtain ⟨k, q, hk, hq, rfl, rfl, hb, hno⟩ := hrel
    have HN := LH hno; have HB := LH hb; clear hno hb
    by_cases hlt : k < l.length
    . obtain ⟨b, o, rfl, hbl, h0, h1⟩ := HR1.out.at_ hlt
      have HD := LH (dS hlt)
      have h0 := (HB.out.cell hbl).trans h0
      have h1 := (HB.out.cell hbl).trans h1
      generalize l[k] = a at *
      go_wp2
      . have e : a.co = true := by assumption
        go_roundw
        case rel => exact ⟨k + 1, q + 1, by omega, by omega, by go_num, by go_num, HB.out.alloc HB.out.size _, by rw [HN.out, HD.out]; simp [nCo, e]; omega⟩
        case measure => simp [intOf]; omega
      . have e : a.co = false := by assumption
        go_roundw
        case rel => exact ⟨k + 1, q, by omega, by omega, by go_num, by go_num, HB.out.alloc HB.out.size _, by rw [HN.out, HD.out]; simp [nCo, e]⟩
        case measure => simp [intOf]; omega
    . go_wp2
      go_ret
      exact ⟨ret_int (by rw [HN.out, drop_end hlt]; simp [nCo]), HB1.out.trans (HB.out.mono HB1.out.size)⟩
theorem Ends_any (va : Value) (x : Xtor) (w : World) (h : RArgs w va x.args) :
    Calls Tryz.prog 76 #[.agg #[.string x.name, va]] w fun e w' => e = .returned (.bool (endsB x.args)) /\ Below w.heap.size w w' := by
  have HE := LH (endsB_eq x.args)
  have hb1 : Below w.heap.size w (w.alloc (Obj.cells #[Value.string x.name, va] 140)) := (Below.refl _ _).alloc (Nat.le_refl _) _
  have HB1 := LH hb1
  have HR := LH (h.below hb1)
  clear hb1
  have hl1 : nCo x.args = 1 -> 0 < x.args.length := by
    intro e
    rcases Nat.eq_zero_or_pos x.args.length with h0 | h0
    . rw [List.eq_nil_of_length_eq_zero h0] at e; cases e
    . exact h0
  have HL1 := LH hl1; clear hl1
  have hc0 : (w.alloc (Obj.cells #[Value.string x.name, va] 140)).cell? ⟨w.heap.size, 0, none⟩ = some (.string x.name) := by
    rw [World.cell?_alloc_at _ _ _ _ rfl]; rfl
  have hc1 : (w.alloc (Obj.cells #[Value.string x.name, va] 140)).cell? ⟨w.heap.size, 1, none⟩ = some va := by
    rw [World.cell?_alloc_at _ _ _ _ rfl]; rfl
  go_enter Tryz.func76, Tryz.ntmps76
  go_wp2_with fail
  (with_reducible refine (Consumers_any _ _ _ HR.out).mono ?_)
  rintro e w2 ⟨rfl, hb2⟩
  have HC0 := LH ((hb2.cell (p := ⟨w.heap.size, 0, none⟩) (by simp)).trans hc0)
  have hd1 := ((hb2.cell (p := ⟨w.heap.size, 1, none⟩) (by simp)).trans hc1)
  have HR2 := LH (HR.out.below hb2)
  have HB2 := LH (HB1.out.trans (hb2.mono HB1.out.size))
  clear hb2 hc0 hc1 h
  by_cases h1 : nCo x.args = 1
  . have h0 := HL1.out h1
    have HL := LH (lastCo_eq h0)
    have hr2 := HR2.out
    obtain ⟨A, c, rfl, hc, hm, hcell⟩ := hr2
    clear hcell
    unfold maxLen at hm
    obtain ⟨b, o, rfl, hbl, h3, h4⟩ := HR2.out.at_ (k := x.args.length - 1) (by omega)
    generalize x.args[x.args.length - 1] = a at *
    have hn : ((nCo x.args : Int) == 1) = true := by simp [h1]
    have H1 := LH h1; clear h1
    go_wp2
    go_ret
    exact ⟨rB (by rw [HE.out, HL.out, H1.out]; simp), HB2.out⟩
  . have hn : ((nCo x.args : Int) == 1) = false := by simp; omega
    have H1 := LH h1; clear h1
    go_wp2
    go_ret
    exact ⟨rB (by rw [HE.out]; simp [H1.out]), HB2.out⟩
def RDecl (w : World) (v : Value) (d : Decl) : Prop := ∃ va, v = .agg #[.string d.name, .bool d.codata, va] /\ RXtors w va d.xtors /\ d.name.size <= maxLen
theorem isSource_any (v : Value) (d : Decl) (w : World) (h : RDecl w v d) :
    Calls Tryz.prog 102 #[v] w fun e w' => e = .returned (.bool (srcD d)) /\ Below w.heap.size w w' := by
  obtain ⟨va, rfl, hx, hnm⟩ := h
  have HS : Hid (srcD d = d.xtors.all (srcX d.codata)) := rfl
  obtain ⟨nm, co, l⟩ := d
  dsimp only at *
  have HR := LH hx
  obtain ⟨A, c, rfl, hc, hm, hcell⟩ := hx
  clear hcell
  unfold maxLen at hm
  go_enter Tryz.func102, Tryz.ntmps102
  go_wp2
  have hB1 : Below w.heap.size w (w.alloc (Obj.cells #[Value.string nm, Value.bool co, Value.slice A l.length c] 137)) := (Below.refl _ _).alloc (Nat.le_refl _) _
  have hc1 : (w.alloc (Obj.cells #[Value.string nm, Value.bool co, Value.slice A l.length c] 137)).cell? ⟨w.heap.size, 1, none⟩ = some (.bool co) := by
    rw [World.cell?_alloc_at _ _ _ _ rfl]; rfl
  have hz : w.heap.size < (w.alloc (Obj.cells #[Value.string nm, Value.bool co, Value.slice A l.length c] 137)).heap.size := by simp
  generalize w.alloc _ = w1 at *
  have HB1 := LH hB1; clear hB1
  have HR1 := LH (HR.out.below HB1.out)
  go_loopw [8] (fun i wr => ∃ k : Nat, k <= l.length /\ i = .int .i64 k /\ Below w1.heap.size w1 wr /\ l.all (srcX co) = (l.drop k).all (srcX co)) (fun i _ => l.length - (intOf i).toNat)
  case atStart => exact ⟨0, Nat.zero_le _, rfl, Below.refl _ _, by simp⟩
  case round =>
    obtain ⟨k, hk, rfl, hb, hno⟩ := hrel
    have HN := LH hno; have HB := LH hb; clear hno hb
    have hc1 := (HB.out.cell (p := ⟨w.heap.size, 1, none⟩) hz).trans hc1
    by_cases hlt : k < l.length
    . obtain ⟨b, o, va, rfl, hbl, h0, h1, h2, h3⟩ := HR1.out.at_ hlt
      have HD := LH (dS hlt)
      have h0 := (HB.out.cell hbl).trans h0
      have h1 := (HB.out.cell hbl).trans h1
      generalize l[k] = a at *
      have HA := LH (h2.below HB.out); clear h2
      obtain ⟨A2, c2, rfl, -⟩ := HA.out.form
      have hzr : w.heap.size < wr.heap.size := Nat.lt_of_lt_of_le hz HB.out.size
      have HX1 : Hid (co = true -> srcX co a = endsB a.args) := fun e => by simp [srcX, e]
      have HX2 : Hid (co = false -> srcX co a = !hasCo a.args) := fun e => by simp [srcX, e]
      have hal : Below wr.heap.size wr (wr.alloc (Obj.cells #[Value.string a.name, Value.slice A2 a.args.length c2] 140)) := (Below.refl _ _).alloc (Nat.le_refl _) _
      have HW := LH (HB1.out.trans ((HB.out.trans (hal.mono HB.out.size)).mono HB1.out.size))
      have HV := LH (HB.out.trans (hal.mono HB.out.size))
      clear hal
      cases co
      . have HX := LH (HX2.out rfl); clear HX1 HX2
        go_wp2_with (go_at_call 126; (with_reducible refine (hasConsumer_any _ _ _ (HA.out.below ((Below.refl _ _).alloc (Nat.le_refl _) _))).mono ?_); rintro e w' ⟨rfl, hb2⟩)
        . have q : hasCo a.args = true := by assumption
          go_ret
          exact ⟨rB (by rw [HS.out, HN.out, HD.out]; simp [HX.out, q]), HW.out.trans (hb2.mono HW.out.size)⟩
        . have q : hasCo a.args = false := by assumption
          go_roundw
          case rel => exact ⟨k + 1, by omega, by go_num, HV.out.trans (hb2.mono HV.out.size), by rw [HN.out, HD.out]; simp [HX.out, q]⟩
          case measure => simp [intOf]; omega
      . have HX := LH (HX1.out rfl); clear HX1 HX2
        have hc4 := (Ext.al wr (Obj.cells #[Value.string a.name, Value.slice A2 a.args.length c2] 140)).keep hc1
        go_wp2_with (go_at_call 125; (with_reducible refine (ends_any _ _ _ (HA.out.below (Ext.al _ _))).mono ?_); rintro e w' ⟨rfl, hb2⟩; have hc3 := Ext.keep hb2 hc4)
        . have q : endsB a.args = true := by assumption
          go_roundw
          case rel => exact ⟨k + 1, by omega, by go_num, HV.out.trans (hb2.mono HV.out.size), by rw [HN.out, HD.out]; simp [HX.out, q]⟩
          case measure => simp [intOf]; omega
        . have q : ¬ endsB a.args = true := by assumption
          go_ret
          exact ⟨rB (by rw [HS.out, HN.out, HD.out]; simp [HX.out, q]), HW.out.trans (hb2.mono HW.out.size)⟩
    . go_wp2
      go_ret
      exact ⟨rB (by rw [HS.out, HN.out, drop_end hlt]; rfl), HB1.out.trans (HB.out.mono HB1.out.size)⟩
theorem srcX_t (a : Xtor) : srcX true a = endsB a.args := rfl
theorem srcX_f (a : Xtor) : srcX false a = !hasCo a.args := rfl
theorem RSource_any (v : Value) (l : List Decl) (w : World) (h : RDecls w v l) :
    Calls Tryz.prog 48 #[v] w fun e w' => e = .returned (.bool (srcB l)) /\ Ext w w' := by
  have HS : Hid (srcB l = l.all srcD) := rfl
  have HR := LH h
  obtain ⟨A, c, rfl, hc, hm⟩ := h.form
  clear h
  unfold maxLen at hm
  go_enter Tryz.func48, Tryz.ntmps48
  go_wp2
  go_loopw [9] (fun i wr => ∃ k : Nat, k <= l.length /\ i = .int .i64 k /\ Ext w wr /\ l.all srcD = (l.drop k).all srcD) (fun i _ => l.length - (intOf i).toNat)
  case atStart => exact ⟨0, Nat.zero_le _, rfl, Ext.rf _, by simp⟩
  case round =>
    obtain ⟨k, hk, rfl, hb, hno⟩ := hrel
    obtain ⟨wo, rfl⟩ : ∃ wo : World, wo = wr := ⟨_, rfl⟩
    have HN := LH hno; have HB := LH hb; clear hno hb
    by_cases hlt : k < l.length
    . have HRk := LH (HR.out.below HB.out)
      obtain ⟨b, o, vx, rfl, hbl, h0, h1, h2, h3, h4⟩ := HRk.out.at_ hlt
      have HD := LH (dS hlt)
      have HSd : Hid (srcD l[k] = l[k].xtors.all (srcX l[k].codata)) := rfl
      generalize l[k] = d at *
      obtain ⟨nm, co, xs⟩ := d
      dsimp only at *
      obtain ⟨A2, c2, rfl, hc2, hm2⟩ := h3.form
      unfold maxLen at hm2
      have HX := LH h3; clear h3
      go_wp2
      have hc1 : (wo.alloc (Obj.cells #[Value.string nm, Value.bool co, Value.slice A2 xs.length c2] 137)).cell? ⟨wo.heap.size, 1, none⟩ = some (.bool co) := by
        rw [World.cell?_alloc_at _ _ _ _ rfl]; rfl
      have hE1 := Ext.al wo (Obj.cells #[Value.string nm, Value.bool co, Value.slice A2 xs.length c2] 137)
      generalize wo.alloc _ = w1 at *
      have HE1 := LH hE1; clear hE1
      have HX1 := LH (HX.out.below HE1.out)
      go_loopw [16] (fun i wr => ∃ j : Nat, j <= xs.length /\ i = .int .i64 j /\ Ext w1 wr /\ xs.all (srcX co) = (xs.drop j).all (srcX co)) (fun i _ => xs.length - (intOf i).toNat)
      case atStart => exact ⟨0, Nat.zero_le _, rfl, Ext.rf _, by simp⟩
      case round =>
        obtain ⟨j, hj, rfl, hb2, hno2⟩ := hrel
        have HN2 := LH hno2; have HB2 := LH hb2; clear hno2 hb2
        have hc1 := HB2.out.keep hc1
        by_cases hlt2 : j < xs.length
        . have HX2 := LH (HX1.out.below HB2.out)
          obtain ⟨b2, o2, va, rfl, hbl2, g0, g1, g2, g3⟩ := HX2.out.at_ hlt2
          have HD2 := LH (dS hlt2)
          generalize xs[j] = x at *
          obtain ⟨A3, c3, rfl, -⟩ := g2.form
          have hE2 := Ext.al wr (Obj.cells #[Value.string x.name, Value.slice A3 x.args.length c3] 140)
          have HE2 := LH (HB2.out.tr hE2)
          have HA := LH (g2.below hE2); clear g2
          have hc2' := hE2.keep hc1
          clear hE2
          cases co
          . go_wp2_with (go_at_call 77; (with_reducible refine (Consumers_any _ _ _ HA.out).mono ?_); rintro e w' ⟨rfl, hb2⟩)
            . have q : 0 < nCo x.args := by omega
              go_ret
              exact ⟨rB (by rw [HS.out, HN.out, HD.out, List.all_cons, HSd.out, HN2.out, HD2.out, List.all_cons, srcX_f, hasCo_iff]; simp [q]), HB.out.tr (HE1.out.tr (HE2.out.tr hb2))⟩
            . have q : ¬ 0 < nCo x.args := by omega
              go_roundw
              case rel => exact ⟨j + 1, by omega, by go_num, HE2.out.tr hb2, by rw [HN2.out, HD2.out, List.all_cons, srcX_f, hasCo_iff]; simp [q]⟩
              case measure => simp [intOf]; omega
          . go_wp2_with (go_at_call 76; (with_reducible refine (Ends_any _ _ _ HA.out).mono ?_); rintro e w' ⟨rfl, hb2⟩; have hc3 := Ext.keep hb2 hc2')
            . have q : endsB x.args = true := by assumption
              go_roundw
              case rel => exact ⟨j + 1, by omega, by go_num, HE2.out.tr hb2, by rw [HN2.out, HD2.out, List.all_cons, srcX_t, q]; rfl⟩
              case measure => simp [intOf]; omega
            . have q : endsB x.args = false := by simpa using ‹¬ endsB x.args = true›
              go_ret
              exact ⟨rB (by rw [HS.out, HN.out, HD.out, List.all_cons, HSd.out, HN2.out, HD2.out, List.all_cons, srcX_t, q]; simp), HB.out.tr (HE1.out.tr (HE2.out.tr hb2))⟩
        . go_wp2
          go_roundw
          case rel => exact ⟨k + 1, by omega, by go_num, HB.out.tr (HE1.out.tr HB2.out), by rw [HN.out, HD.out, List.all_cons, HSd.out, HN2.out, drop_end hlt2]; rfl⟩
          case measure => simp [intOf]; omega
    . go_wp2
      go_ret
      exact ⟨rB (by rw [HS.out, HN.out, drop_end hlt]; rfl), HB.out⟩
end Go.Proofs.YtkdglplfcpindaaGreatDoor
