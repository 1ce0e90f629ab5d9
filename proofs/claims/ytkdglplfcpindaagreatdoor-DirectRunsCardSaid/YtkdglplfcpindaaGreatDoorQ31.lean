import Derived.Test.YtkdglplfcpindaaGreatDoorQ30
import Derived.RegionTactic
import Derived.BigRegion
set_option maxRecDepth 100000
namespace Go.Proofs.YtkdglplfcpindaaGreatDoor
open Go.RowKit
theorem add_strB (a b : List UInt8) (h : a.length + b.length <= 10000000) : Op.stringOp .add ⟨a.toArray⟩ ⟨b.toArray⟩ = pure (.string ⟨(a ++ b).toArray⟩) := by
  have e : (⟨a.toArray⟩ : Str) ++ (⟨b.toArray⟩ : Str) = ⟨(a ++ b).toArray⟩ := by
    apply ByteArray.ext
    rw [ByteArray.data_append]
    simp
  rw [← e]
  unfold Op.stringOp
  simp only []
  rw [if_neg (by have e : IntKind.i64.max = 9223372036854775807 := rfl
                 rw [e]; show ¬ _ < ((a.toArray.size + b.toArray.size : Nat) : Int); rw [List.size_toArray, List.size_toArray]; omega)]
set_option maxHeartbeats 1000000 in
theorem stringR_any (w : World) (r : Rn) (ov : Value) (hR : RInts w ov r.outs) (hl : r.outs.length <= 100000) (hk : OkR r) (hst : r.stop = 0 ∨ r.stop = 1 ∨ r.stop = 2) :
    Calls Tryz.prog 14 #[.agg #[.int .i64 r.stop, .int .i64 r.val, ov, .int .i64 r.steps]] w fun e w' => e = .returned (.string ⟨(textS r).toArray⟩) /\ Ext w w' := by
  have HR := LH hR
  have HK := LH hk
  have hlen : ∀ n, ok64 n -> (Lib.itoa n).length <= 21 := fun n h => by
    have hb : -9223372036854775808 <= n /\ n <= 9223372036854775807 := by
      unfold ok64 at h
      simpa [Lit.wf, IntKind.min, IntKind.max, IntKind.signed, IntKind.bits] using h
    exact Lib.itoa_length_le n hb.1 hb.2
  have HL := LH hlen
  have HEL : Hid ((r.outs.flatMap emS).length <= 2800000) := by show _ <= _; have := ems_len r.outs (fun n hn => hlen n (hk.1 n hn)); omega
  have HTX : Hid (textS r = r.outs.flatMap emS ++ endS r.stop r.val) := rfl
  obtain ⟨A, c, rfl, hc, hm⟩ := hR.form
  unfold maxLen at hm
  have g1 := hNw w (.cells #[.int .i64 r.stop, .int .i64 r.val, .slice A r.outs.length c, .int .i64 r.steps] 30)
  have HB := LH g1
  have HE := LH (Ext.al w (.cells #[.int .i64 r.stop, .int .i64 r.val, .slice A r.outs.length c, .int .i64 r.steps] 30))
  have c2 := cA g1 2
  have HST := LH hst
  clear hR hk hlen g1 hst
  go_enter Tryz.func14, Tryz.ntmps14
  go_wp2
  clear c2
  generalize World.alloc w _ = w1 at *
  go_loopw [3, 9] (fun s i wr => ∃ j : Nat, j <= r.outs.length /\ i = .int .i64 j /\ s = .string ⟨((r.outs.take j).flatMap emS).toArray⟩ /\ wr.heap[w.heap.size]? = some (.cells #[.int .i64 r.stop, .int .i64 r.val, .slice A r.outs.length c, .int .i64 r.steps] 30 (0, 0)) /\ Ext w wr) (fun _ i _ => r.outs.length - (intOf i).toNat)
  case atStart => exact ⟨0, Nat.zero_le _, rfl, rfl, HB.out, HE.out⟩
  case round =>
    obtain ⟨j, hj, rfl, rfl, hbx, hE⟩ := hrel
    have HEk := LH hE
    have HBk := LH hbx
    clear hE hbx
    by_cases hlt : j < r.outs.length
    . obtain ⟨b, o, rfl, hbl, y0⟩ := HR.out.at_ hlt
      have y0 := HEk.out.keep y0
      have hok : ok64 r.outs[j] := HK.out.1 _ (List.getElem_mem hlt)
      have HD := LH (digits64 r.outs[j] hok)
      have HTK : Hid ((r.outs.take (j + 1)).flatMap emS = (r.outs.take j).flatMap emS ++ emS r.outs[j]) := by show _ = _; rw [List.take_succ_eq_append_getElem hlt, List.flatMap_append]; simp
      have HAL : Hid (((r.outs.take j).flatMap emS).length <= 2800000) := by
        show _ <= _
        have := ems_len (r.outs.take j) (fun n hn => HL.out n (HK.out.1 n (List.mem_of_mem_take hn)))
        rw [List.length_take] at this
        omega
      have hsz := HL.out _ hok
      clear hok
      generalize r.outs[j] = x at *
      obtain ⟨acc, hacc⟩ : ∃ a, (r.outs.take j).flatMap emS = a := ⟨_, rfl⟩
      rw [hacc] at HTK HAL
      have HAC := LH hacc
      clear hacc
      have ha1 := add_strB [101, 109, 105, 116, 32] (Lib.itoa x) (by simp only [List.length_cons, List.length_nil]; omega)
      have ha2 := add_strB (101 :: 109 :: 105 :: 116 :: 32 :: Lib.itoa x) [44, 32] (by simp only [List.length_append, List.length_cons, List.length_nil]; omega)
      have ha3 := add_strB acc (101 :: 109 :: 105 :: 116 :: 32 :: (Lib.itoa x ++ [44, 32])) (by have := HAL.out; simp only [List.length_append, List.length_cons, List.length_nil]; omega)
      have HEM : Hid (101 :: 109 :: 105 :: 116 :: 32 :: (Lib.itoa x ++ [44, 32]) = emS x) := rfl
      clear hsz
      rw [HAC.out]
      go_wp2_with fail
      (with_reducible refine (HD.out _).mono ?_)
      rintro e w2 ⟨rfl, hx⟩
      have HX2 := LH (HEk.out.tr hx)
      have HB2 := LH ((hx.block _ (hLt HBk.out)).trans HBk.out)
      clear hx y0
      go_wp2
      go_roundw
      case rel => exact ⟨j + 1, by omega, by go_num, by rw [HTK.out, HEM.out], HB2.out, HX2.out⟩
      case measure => simp [intOf]; omega
    . have HJ : Hid (r.outs.take j = r.outs) := List.take_of_length_le (by omega)
      have c0 := cA HBk.out 0
      have c1 := cA HBk.out 1
      rw [HJ.out]
      obtain ⟨acc, hacc⟩ : ∃ a, r.outs.flatMap emS = a := ⟨_, rfl⟩
      rw [hacc] at HTX HEL
      rw [hacc]
      clear hacc
      have hn := HL.out _ HK.out.2
      have HD := LH (digits64 r.val HK.out.2)
      have ha1 := add_strB acc [100, 111, 110, 101, 32] (by have := HEL.out; simp only [List.length_cons, List.length_nil]; omega)
      have ha2 := add_strB (acc ++ [100, 111, 110, 101, 32]) (Lib.itoa r.val) (by have := HEL.out; simp only [List.length_append, List.length_cons, List.length_nil]; omega)
      have ha3 := add_strB acc [115, 112, 101, 110, 116] (by have := HEL.out; simp only [List.length_cons, List.length_nil]; omega)
      have ha4 := add_strB acc [115, 116, 117, 99, 107] (by have := HEL.out; simp only [List.length_cons, List.length_nil]; omega)
      clear hn
      rcases HST.out with h | h | h
      . have HEN : Hid (acc ++ [100, 111, 110, 101, 32] ++ Lib.itoa r.val = textS r) := by show _ = _; rw [HTX.out, h, endS, if_neg (by decide), if_neg (by decide), List.append_assoc]
        rw [h] at c0
        go_wp2_with fail
        (with_reducible refine (HD.out _).mono ?_)
        rintro e w2 ⟨rfl, hx⟩
        have HX2 := LH (HEk.out.tr hx)
        clear hx
        go_wp2
        go_ret
        exact ⟨by have e := HEN.out; simp only [List.append_assoc, List.cons_append, List.nil_append] at e; rw [e]; rfl, HX2.out⟩
      . have HEN : Hid (acc ++ [115, 112, 101, 110, 116] = textS r) := by show _ = _; rw [HTX.out, h, endS, if_pos rfl]
        rw [h] at c0
        go_wp2
        go_ret
        exact ⟨by rw [HEN.out]; rfl, HEk.out⟩
      . have HEN : Hid (acc ++ [115, 116, 117, 99, 107] = textS r) := by show _ = _; rw [HTX.out, h, endS, if_neg (by decide), if_pos rfl]
        rw [h] at c0
        go_wp2
        go_ret
        exact ⟨by rw [HEN.out]; rfl, HEk.out⟩
end Go.Proofs.YtkdglplfcpindaaGreatDoor

namespace Go.Proofs.YtkdglplfcpindaaGreatDoor
open Go.RowKit
abbrev zi : Value := .int .i64 0
abbrev zs : Value := .slice none 0 0
abbrev zp : Value := .pointer none
abbrev ze : Value := .string ⟨#[]⟩
abbrev frV (kind : Int) (t : Tm) (va vc ev a : Value) (n : Int) (kv : Value) : Array Value := #[.int .i64 kind, .int .i64 t.op, .int .i64 t.n, .string t.nm, .int .i64 t.ty, va, vc, ev, a, .int .i64 n, kv]
inductive RX where
  | v (a : Array Value) (x : Vl)
  | b (a : Array Value) (x : It)
  | e (a : Value) (vs : List (Str × It)) (ls : List (Str × Kt))
  | k (a : Value) (l : Kt)
  | is (a : Value) (l : List It)
inductive DR (P : Pg) (w0 w : World) (bad : Nat -> Prop) : RX -> Prop
  | int (n : Int) (h : ok64 n) : DR P w0 w bad (.v #[zi, .int .i64 n, zi, zs, zs, zp] (.int n))
  | con (ty n : Int) (a : Value) (l : List It) (h1 : ok64 ty) (h2 : ok64 n) (h3 : DR P w0 w bad (.is a l)) : DR P w0 w bad (.v #[.int .i64 1, .int .i64 n, .int .i64 ty, a, zs, zp] (.con ty n l))
  | obj (t : Tm) (e : En) (va vc ev : Value) (h1 : RTx w0 t va vc) (h2 : DR P w0 w bad (.e ev e.vs e.ls)) : DR P w0 w bad (.v #[.int .i64 2, zi, .int .i64 t.ty, zs, vc, ev] (.obj t e))
  | held (a0 a1 a2 a3 a4 a5 : Value) (x : Vl) (h : DR P w0 w bad (.v #[a0, a1, a2, a3, a4, a5] x)) :
    DR P w0 w bad (.b #[.bool false, a0, a1, a2, a3, a4, a5, zi, zi, ze, zi, zs, zs, zp] (.held x))
  | thunk (t : Tm) (e : En) (va vc ev : Value) (h1 : RTx w0 t va vc) (h2 : DR P w0 w bad (.e ev e.vs e.ls)) :
    DR P w0 w bad (.b #[.bool true, zi, zi, zi, zs, zs, zp, .int .i64 t.op, .int .i64 t.n, .string t.nm, .int .i64 t.ty, va, vc, ev] (.thunk t e))
  | enil : DR P w0 w bad (.e zp [] [])
  | evar (b : Nat) (s : Str) (a0 a1 a2 a3 a4 a5 a6 a7 a8 a9 a10 a11 a12 a13 p : Value) (x : It) (vs : List (Str × It)) (ls : List (Str × Kt)) (h0 : s.size <= maxLen) (h1 : ¬ bad b)
    (h2 : w.heap[b]? = some (.cells #[.bool false, .string s, a0, a1, a2, a3, a4, a5, a6, a7, a8, a9, a10, a11, a12, a13, zp, p] 120 (0, 0)))
    (h3 : DR P w0 w bad (.b #[a0, a1, a2, a3, a4, a5, a6, a7, a8, a9, a10, a11, a12, a13] x)) (h4 : DR P w0 w bad (.e p vs ls)) :
    DR P w0 w bad (.e (.pointer (some ⟨b, 0, none⟩)) ((s, x) :: vs) ls)
  | elbl (b : Nat) (s : Str) (kv p : Value) (k : Kt) (vs : List (Str × It)) (ls : List (Str × Kt)) (h0 : s.size <= maxLen) (h1 : ¬ bad b)
    (h2 : w.heap[b]? = some (.cells #[.bool true, .string s, .bool false, zi, zi, zi, zs, zs, zp, zi, zi, ze, zi, zs, zs, zp, kv, p] 120 (0, 0)))
    (h3 : DR P w0 w bad (.k kv k)) (h4 : DR P w0 w bad (.e p vs ls)) :
    DR P w0 w bad (.e (.pointer (some ⟨b, 0, none⟩)) vs ((s, k) :: ls))
  | inil : DR P w0 w bad (.is zs [])
  | icons (b o c : Nat) (a : Nat -> Array Value) (l : List It) (h0 : l.length <= c) (h1 : c <= maxLen) (h2 : l ≠ [] -> ¬ bad b) (h3 : ∀ i, i < l.length -> ∀ j u, (a i)[j]? = some u -> w.cell? ⟨b, o + i * 14 + j, none⟩ = some u)
    (h4 : ∀ i x, l[i]? = some x -> DR P w0 w bad (.b (a i) x)) : DR P w0 w bad (.is (.slice (some ⟨b, o, none⟩) l.length c) l)
  | fin (b : Nat) (h1 : ¬ bad b) (h2 : w.heap[b]? = some (.cells #[zi, zi, zi, ze, zi, zs, zs, zp, zs, zi, zp] 75 (0, 0))) : DR P w0 w bad (.k (.pointer (some ⟨b, 0, none⟩)) [])
  | bind (b : Nat) (t : Tm) (e : En) (va vc ev kv a : Value) (ts : List Tm) (ys : List Int) (l : List It) (k : Kt) (h1 : ¬ bad b) (h2 : w.heap[b]? = some (.cells (frV 1 t va vc ev a 0 kv) 75 (0, 0)))
    (h3 : RTx w0 t va vc) (h4 : DR P w0 w bad (.e ev e.vs e.ls)) (h5 : DR P w0 w bad (.is a l)) (h6 : DR P w0 w bad (.k kv k)) (h7 : ts = (termsOf t).drop l.length) (h8 : ys = (typesOf P t).drop l.length) :
    DR P w0 w bad (.k (.pointer (some ⟨b, 0, none⟩)) (.bind ts ys l t e :: k))
  | left (b : Nat) (t : Tm) (e : En) (va vc ev kv : Value) (k : Kt) (h1 : ¬ bad b) (h2 : w.heap[b]? = some (.cells (frV 2 t va vc ev zs 0 kv) 75 (0, 0)))
    (h3 : RTx w0 t va vc) (h4 : DR P w0 w bad (.e ev e.vs e.ls)) (h6 : DR P w0 w bad (.k kv k)) : DR P w0 w bad (.k (.pointer (some ⟨b, 0, none⟩)) (.left t e :: k))
  | right (b : Nat) (t : Tm) (e : En) (n : Int) (va vc kv : Value) (k : Kt) (h0 : ok64 n) (h1 : ¬ bad b) (h2 : w.heap[b]? = some (.cells (frV 3 t va vc zp zs n kv) 75 (0, 0)))
    (h3 : RTx w0 t va vc) (h6 : DR P w0 w bad (.k kv k)) : DR P w0 w bad (.k (.pointer (some ⟨b, 0, none⟩)) (.right t e n :: k))
  | zero (b : Nat) (t : Tm) (e : En) (va vc ev kv : Value) (k : Kt) (h1 : ¬ bad b) (h2 : w.heap[b]? = some (.cells (frV 4 t va vc ev zs 0 kv) 75 (0, 0)))
    (h3 : RTx w0 t va vc) (h4 : DR P w0 w bad (.e ev e.vs e.ls)) (h6 : DR P w0 w bad (.k kv k)) : DR P w0 w bad (.k (.pointer (some ⟨b, 0, none⟩)) (.zero t e :: k))
  | ana (b : Nat) (t : Tm) (e : En) (va vc ev kv : Value) (k : Kt) (h1 : ¬ bad b) (h2 : w.heap[b]? = some (.cells (frV 5 t va vc ev zs 0 kv) 75 (0, 0)))
    (h3 : RTx w0 t va vc) (h4 : DR P w0 w bad (.e ev e.vs e.ls)) (h6 : DR P w0 w bad (.k kv k)) : DR P w0 w bad (.k (.pointer (some ⟨b, 0, none⟩)) (.ana t e :: k))
  | obs (b : Nat) (t : Tm) (e : En) (va vc kv a : Value) (l : List It) (k : Kt) (h1 : ¬ bad b) (h2 : w.heap[b]? = some (.cells (frV 6 t va vc zp a 0 kv) 75 (0, 0)))
    (h3 : RTx w0 t va vc) (h5 : DR P w0 w bad (.is a l)) (h6 : DR P w0 w bad (.k kv k)) : DR P w0 w bad (.k (.pointer (some ⟨b, 0, none⟩)) (.obs t e l :: k))
  | emit (b : Nat) (t : Tm) (e : En) (va vc ev kv : Value) (k : Kt) (h1 : ¬ bad b) (h2 : w.heap[b]? = some (.cells (frV 7 t va vc ev zs 0 kv) 75 (0, 0)))
    (h3 : RTx w0 t va vc) (h4 : DR P w0 w bad (.e ev e.vs e.ls)) (h6 : DR P w0 w bad (.k kv k)) : DR P w0 w bad (.k (.pointer (some ⟨b, 0, none⟩)) (.emit t e :: k))
def RX.sized : RX -> Prop
  | .v a _ => a.size = 6
  | .b a _ => a.size = 14
  | _ => True
section
variable {P : Pg} {w0 w w' : World} {bad bad' : Nat -> Prop}
theorem DR.sized {x : RX} (h : DR P w0 w bad x) : x.sized := by cases h <;> first | trivial | rfl
theorem DR.kp {x : RX} (h : Kp bad bad' w w') (r : DR P w0 w bad x) : DR P w0 w' bad' x := by
  induction r with
  | int n h1 => exact .int n h1
  | con ty n a l h1 h2 _ ih => exact .con ty n a l h1 h2 ih
  | obj t e va vc ev h1 _ i2 => exact .obj t e va vc ev h1 i2
  | held a0 a1 a2 a3 a4 a5 x _ ih => exact .held a0 a1 a2 a3 a4 a5 x ih
  | thunk t e va vc ev h1 _ i2 => exact .thunk t e va vc ev h1 i2
  | enil => exact .enil
  | evar b s a0 a1 a2 a3 a4 a5 a6 a7 a8 a9 a10 a11 a12 a13 p x vs ls h0 h1 h2 _ _ i3 i4 => exact .evar b s a0 a1 a2 a3 a4 a5 a6 a7 a8 a9 a10 a11 a12 a13 p x vs ls h0 (h.blk h1 h2).1 (h.blk h1 h2).2 i3 i4
  | elbl b s kv p k vs ls h0 h1 h2 _ _ i3 i4 => exact .elbl b s kv p k vs ls h0 (h.blk h1 h2).1 (h.blk h1 h2).2 i3 i4
  | inil => exact .inil
  | icons b o c a l h0 h1 h2 h3 hs ih =>
    cases l with
    | nil => exact .icons b o c a [] h0 h1 (fun hn => absurd rfl hn) (fun i hi => by simp at hi) ih
    | cons y r =>
      have hz : (a 0).size = 14 := (hs 0 y rfl).sized
      exact .icons b o c a (y :: r) h0 h1 (fun hn => (h.cell (h2 hn) (h3 0 (by simp) 0 (a 0)[0] (Array.getElem?_eq_getElem _))).1) (fun i hi j u hu => (h.cell (h2 (by simp)) (h3 i hi j u hu)).2) ih
  | fin b h1 h2 => exact .fin b (h.blk h1 h2).1 (h.blk h1 h2).2
  | bind b t e va vc ev kv a ts ys l k h1 h2 h3 _ _ _ h7 h8 i4 i5 i6 => exact .bind b t e va vc ev kv a ts ys l k (h.blk h1 h2).1 (h.blk h1 h2).2 h3 i4 i5 i6 h7 h8
  | left b t e va vc ev kv k h1 h2 h3 _ _ i4 i6 => exact .left b t e va vc ev kv k (h.blk h1 h2).1 (h.blk h1 h2).2 h3 i4 i6
  | right b t e n va vc kv k h0 h1 h2 h3 _ i6 => exact .right b t e n va vc kv k h0 (h.blk h1 h2).1 (h.blk h1 h2).2 h3 i6
  | zero b t e va vc ev kv k h1 h2 h3 _ _ i4 i6 => exact .zero b t e va vc ev kv k (h.blk h1 h2).1 (h.blk h1 h2).2 h3 i4 i6
  | ana b t e va vc ev kv k h1 h2 h3 _ _ i4 i6 => exact .ana b t e va vc ev kv k (h.blk h1 h2).1 (h.blk h1 h2).2 h3 i4 i6
  | obs b t e va vc kv a l k h1 h2 h3 _ _ i5 i6 => exact .obs b t e va vc kv a l k (h.blk h1 h2).1 (h.blk h1 h2).2 h3 i5 i6
  | emit b t e va vc ev kv k h1 h2 h3 _ _ i4 i6 => exact .emit b t e va vc ev kv k (h.blk h1 h2).1 (h.blk h1 h2).2 h3 i4 i6
theorem DR.ext {x : RX} (h : DR P w0 w bad x) (hb : Ext w w') : DR P w0 w' bad x := h.kp (Kp.of_ext hb)
theorem DR.e_form {v : Value} {vs : List (Str × It)} {ls : List (Str × Kt)} (h : DR P w0 w bad (.e v vs ls)) : ∃ p, v = .pointer p := by cases h <;> exact ⟨_, rfl⟩
theorem DR.k_form {v : Value} {l : Kt} (h : DR P w0 w bad (.k v l)) : ∃ b, v = .pointer (some ⟨b, 0, none⟩) := by cases h <;> exact ⟨_, rfl⟩
theorem DR.is_form {v : Value} {l : List It} (h : DR P w0 w bad (.is v l)) : ∃ A c, v = .slice A l.length c /\ l.length <= c /\ c <= maxLen := by
  cases h with
  | inil => exact ⟨none, 0, rfl, Nat.le_refl _, Nat.zero_le _⟩
  | icons b o c a _ h0 h1 h2 h3 h4 => exact ⟨_, c, rfl, h0, h1⟩
theorem DR.is_at {v : Value} {l : List It} {i : Nat} {x : It} (h : DR P w0 w bad (.is v l)) (hi : l[i]? = some x) :
    ∃ b o c a, v = .slice (some ⟨b, o, none⟩) l.length c /\ DR P w0 w bad (.b a x) /\ ∀ j u, a[j]? = some u -> w.cell? ⟨b, o + i * 14 + j, none⟩ = some u := by
  cases h with
  | inil => simp at hi
  | icons b o c a _ h0 h1 h2 h3 h4 => exact ⟨b, o, c, a i, rfl, h4 i x hi, h3 i (List.getElem?_eq_some_iff.1 hi).1⟩
end
end Go.Proofs.YtkdglplfcpindaaGreatDoor

namespace Go.Proofs.YtkdglplfcpindaaGreatDoor
open Go.RowKit
abbrev mrV (vd vf : Value) (fu en vl : Int) (ov : Value) (st : Int) (tm t0 t1 t2 t3 t4 t5 ev v0 v1 v2 v3 v4 v5 kv over : Value) : Array Value :=
  #[vd, vf, .int .i64 fu, .int .i64 en, .int .i64 vl, ov, .int .i64 st, tm, t0, t1, t2, t3, t4, t5, ev, v0, v1, v2, v3, v4, v5, kv, over]
def MZ (w : World) (mb : Nat) (vd vf : Value) (fu en vl : Int) (ov : Value) (st : Int) (tm t0 t1 t2 t3 t4 t5 ev v0 v1 v2 v3 v4 v5 kv over : Value) : Prop :=
  w.heap[mb]? = some (.cells (mrV vd vf fu en vl ov st tm t0 t1 t2 t3 t4 t5 ev v0 v1 v2 v3 v4 v5 kv over) 66 (0, 0))
section
variable {w w' : World} {mb : Nat} {vd vf ov tm t0 t1 t2 t3 t4 t5 ev v0 v1 v2 v3 v4 v5 kv over : Value} {fu en vl st : Int}
theorem MZ.ext (h : MZ w mb vd vf fu en vl ov st tm t0 t1 t2 t3 t4 t5 ev v0 v1 v2 v3 v4 v5 kv over) (hx : Ext w w') : MZ w' mb vd vf fu en vl ov st tm t0 t1 t2 t3 t4 t5 ev v0 v1 v2 v3 v4 v5 kv over := (hx.block _ (hLt h)).trans h
theorem MZ.ended (h : MZ w mb vd vf fu en vl ov st tm t0 t1 t2 t3 t4 t5 ev v0 v1 v2 v3 v4 v5 kv over) (a b c : Value) :
    (((w.setCell ⟨mb, 3, none⟩ a).setCell ⟨mb, 4, none⟩ b).setCell ⟨mb, 22, none⟩ c).heap[mb]? = some (.cells #[vd, vf, .int .i64 fu, a, b, ov, .int .i64 st, tm, t0, t1, t2, t3, t4, t5, ev, v0, v1, v2, v3, v4, v5, kv, c] 66 (0, 0)) := by
  unfold MZ at h
  simp [World.setCell, Array.getElem?_modify, h]
end
set_option maxHeartbeats 1000000 in
theorem end_any (w : World) (mb : Nat) (vd vf ov tm t0 t1 t2 t3 t4 t5 ev v0 v1 v2 v3 v4 v5 kv over : Value) (fu en vl st how val : Int) (hm : MZ w mb vd vf fu en vl ov st tm t0 t1 t2 t3 t4 t5 ev v0 v1 v2 v3 v4 v5 kv over) :
    Calls Tryz.prog 30 #[.pointer (some ⟨mb, 0, none⟩), .int .i64 how, .int .i64 val] w fun e w' => (e = .returned (.tuple #[]) /\ MZ w' mb vd vf fu how val ov st tm t0 t1 t2 t3 t4 t5 ev v0 v1 v2 v3 v4 v5 kv (.bool true)) /\ Only (fun b => b = mb) w w' := by
  have HM := LH hm
  have HA := LH (hm.ended (.int .i64 how) (.int .i64 val) (.bool true))
  have c3 := cA hm 3
  have c4 := cA hm 4
  have c22 := cA hm 22
  have f3 := fA hm 3
  have f4 := fA hm 4
  have f22 := fA hm 22
  clear hm
  go_enter Tryz.func30, Tryz.ntmps30
  go_wp2
  go_end0
  exact ⟨⟨rfl, HA.out⟩, ((o5s _ _ _ _).tr (o5s _ _ _ _)).tr (o5s _ _ _ _)⟩
set_option maxHeartbeats 1000000 in
theorem positive_any (P : Pg) (w : World) (mb : Nat) (vd vf ov tm t0 t1 t2 t3 t4 t5 ev v0 v1 v2 v3 v4 v5 kv over : Value) (fu en vl st y : Int) (hd : RDecls w vd P.decls) (hm : MZ w mb vd vf fu en vl ov st tm t0 t1 t2 t3 t4 t5 ev v0 v1 v2 v3 v4 v5 kv over) :
    Calls Tryz.prog 84 #[.pointer (some ⟨mb, 0, none⟩), .int .i64 y] w fun e w' => e = .returned (.bool (!codB P.decls y)) /\ w = w' := by
  have HD := LH hd
  have c0 := cA hm 0
  clear hm
  obtain ⟨A, c, rfl, -, -⟩ := hd.form
  clear hd
  go_enter Tryz.func84, Tryz.ntmps84
  go_wp2_with fail
  (with_reducible refine (RCodata_any _ P.decls y _ HD.out).mono ?_)
  rintro e w2 ⟨rfl, rfl⟩
  obtain ⟨q, hq⟩ : ∃ q, codB P.decls y = q := ⟨_, rfl⟩
  rw [hq]
  have HQ := LH hq
  clear hq HD
  cases q
  all_goals
    go_wp2
    go_ret
    exact ⟨by rw [HQ.out]; rfl, rfl⟩
section
variable {P : Pg} {w0 w : World} {bad : Nat -> Prop}
theorem DR.e_cases {v : Value} {vs : List (Str × It)} {ls : List (Str × Kt)} (h : DR P w0 w bad (.e v vs ls)) : (v = zp /\ vs = [] /\ ls = []) ∨
    (∃ b s a0 a1 a2 a3 a4 a5 a6 a7 a8 a9 a10 a11 a12 a13 p x vs', v = .pointer (some ⟨b, 0, none⟩) /\ vs = (s, x) :: vs' /\ s.size <= maxLen /\ w.heap[b]? = some (.cells #[.bool false, .string s, a0, a1, a2, a3, a4, a5, a6, a7, a8, a9, a10, a11, a12, a13, zp, p] 120 (0, 0)) ∧
      DR P w0 w bad (.b #[a0, a1, a2, a3, a4, a5, a6, a7, a8, a9, a10, a11, a12, a13] x) /\ DR P w0 w bad (.e p vs' ls)) ∨
    (∃ b s kv p k ls', v = .pointer (some ⟨b, 0, none⟩) /\ ls = (s, k) :: ls' /\ s.size <= maxLen /\ w.heap[b]? = some (.cells #[.bool true, .string s, .bool false, zi, zi, zi, zs, zs, zp, zi, zi, ze, zi, zs, zs, zp, kv, p] 120 (0, 0)) ∧
      DR P w0 w bad (.k kv k) /\ DR P w0 w bad (.e p vs ls')) := by
  cases h with
  | enil => exact .inl ⟨rfl, rfl, rfl⟩
  | evar b s a0 a1 a2 a3 a4 a5 a6 a7 a8 a9 a10 a11 a12 a13 p x vs' _ h0 h1 h2 h3 h4 => exact .inr (.inl ⟨b, s, a0, a1, a2, a3, a4, a5, a6, a7, a8, a9, a10, a11, a12, a13, p, x, vs', rfl, rfl, h0, h2, h3, h4⟩)
  | elbl b s kv p k _ ls' h0 h1 h2 h3 h4 => exact .inr (.inr ⟨b, s, kv, p, k, ls', rfl, rfl, h0, h2, h3, h4⟩)
end
def EV (P : Pg) (w0 w : World) (bad : Nat -> Prop) (v : Value) (x : It) : Prop :=
  ∃ b s a0 a1 a2 a3 a4 a5 a6 a7 a8 a9 a10 a11 a12 a13 p, v = .pointer (some ⟨b, 0, none⟩) /\ w.heap[b]? = some (.cells #[.bool false, .string s, a0, a1, a2, a3, a4, a5, a6, a7, a8, a9, a10, a11, a12, a13, zp, p] 120 (0, 0)) ∧
    DR P w0 w bad (.b #[a0, a1, a2, a3, a4, a5, a6, a7, a8, a9, a10, a11, a12, a13] x)
set_option maxHeartbeats 2000000 in
theorem findV_any (P : Pg) (w0 w : World) (bad : Nat -> Prop) (vs : List (Str × It)) (ls : List (Str × Kt)) (v : Value) (s : Str) (x : It) (h : DR P w0 w bad (.e v vs ls)) (hx : findA vs s = some x) :
    Calls Tryz.prog 57 #[v, .bool false, .string s] w fun e w' => (∃ a, e = .returned a /\ EV P w0 w bad a x) /\ w = w' := by
  have H := LH h
  have HX := LH hx
  obtain ⟨p, rfl⟩ := h.e_form
  clear h hx
  go_enter Tryz.func57, Tryz.ntmps57
  go_wp2
  go_loopg [0] (vs.length + ls.length) (fun k b wr => ∃ (r : List (Str × It)) (q : List (Str × Kt)), w = wr /\ r.length + q.length <= k /\ DR P w0 w bad (.e b r q) /\ findA r s = some x)
  case atStart => exact ⟨vs, ls, rfl, Nat.le_refl _, H.out, HX.out⟩
  case round =>
    obtain ⟨r, q, rfl, hk, hb, hr⟩ := hrel
    have HN := LH hr
    rcases hb.e_cases with ⟨rfl, rfl, rfl⟩ | ⟨b, s', a0, a1, a2, a3, a4, a5, a6, a7, a8, a9, a10, a11, a12, a13, u, y, r, rfl, rfl, -, hblk, hi, hrest⟩ | ⟨b, s', kv, u, kt, q, rfl, rfl, -, hblk, -, hrest⟩
    . exact absurd hr (by simp [findA])
    . obtain ⟨g, rfl⟩ := hrest.e_form
      have HI := LH hi
      have HB := LH hblk
      have HRB := LH hrest
      have c0 := cA hblk 0
      have c1 := cA hblk 1
      have c17 := cA hblk 17
      simp only [List.length_cons] at hk
      clear hb hr hi hblk hrest
      cases hq : (s'.toList == s.toList)
      . have HY : Hid (findA r s = some x) := by show _ = _; have := HN.out; rw [findA, if_neg (by rw [hq]; decide)] at this; exact this
        go_wp2
        go_roundg (r.length + q.length)
        case measure => omega
        case rel => exact ⟨r, q, rfl, Nat.le_refl _, HRB.out, HY.out⟩
      . have hy : y = x := by have := HN.out; rw [findA, if_pos hq] at this; exact Option.some.inj this
        subst hy
        go_wp2
        go_ret
        exact ⟨⟨_, rfl, b, s', a0, a1, a2, a3, a4, a5, a6, a7, a8, a9, a10, a11, a12, a13, _, rfl, HB.out, HI.out⟩, rfl⟩
    . obtain ⟨g, rfl⟩ := hrest.e_form
      have HRB := LH hrest
      have c0 := cA hblk 0
      have c1 := cA hblk 1
      have c17 := cA hblk 17
      simp only [List.length_cons] at hk
      clear hb hr hblk hrest
      go_wp2
      go_roundg (r.length + q.length)
      case measure => omega
      case rel => exact ⟨r, q, rfl, Nat.le_refl _, HRB.out, HN.out⟩
end Go.Proofs.YtkdglplfcpindaaGreatDoor

namespace Go.Proofs.YtkdglplfcpindaaGreatDoor
open Go.RowKit
theorem drew_heap (w : World) : w.drew.heap = w.heap := rfl
theorem cset {w : World} {b T : Nat} {c : Array Value} (h : w.heap[b]? = some (.cells c T (0, 0))) (i : Nat) (v : Value) : (w.setCell ⟨b, i, none⟩ v).heap[b]? = some (.cells (c.setIfInBounds i v) T (0, 0)) := by
  simp [World.setCell, Array.getElem?_modify, h]
theorem set9 {w : World} {b T : Nat} {c0 c1 c2 c3 c4 c5 c6 c7 c8 c9 c10 c11 c12 c13 c14 c15 c16 c17 c18 c19 c20 c21 c22 : Value} (h : w.heap[b]? = some (.cells #[c0, c1, c2, c3, c4, c5, c6, c7, c8, c9, c10, c11, c12, c13, c14, c15, c16, c17, c18, c19, c20, c21, c22] T (0, 0))) (a7 a8 a9 a10 a11 a12 a13 a14 a21 : Value) :
    ((((((((((w.setCell ⟨b, 7, none⟩ a7).setCell ⟨b, 8, none⟩ a8).setCell ⟨b, 9, none⟩ a9).setCell ⟨b, 10, none⟩ a10).setCell ⟨b, 11, none⟩ a11).setCell ⟨b, 12, none⟩ a12).setCell ⟨b, 13, none⟩ a13).setCell ⟨b, 14, none⟩ a14).setCell ⟨b, 21, none⟩ a21).drew).heap[b]? = some (.cells #[c0, c1, c2, c3, c4, c5, c6, a7, a8, a9, a10, a11, a12, a13, a14, c15, c16, c17, c18, c19, c20, a21, c22] T (0, 0)) := by
  have h9 := cset (cset (cset (cset (cset (cset (cset (cset (cset h 7 a7) 8 a8) 9 a9) 10 a10) 11 a11) 12 a12) 13 a13) 14 a14) 21 a21
  rw [drew_heap]
  exact h9.trans (by kernel_rfl)
theorem set8 {w : World} {b T : Nat} {c0 c1 c2 c3 c4 c5 c6 c7 c8 c9 c10 c11 c12 c13 c14 c15 c16 c17 c18 c19 c20 c21 c22 : Value} (h : w.heap[b]? = some (.cells #[c0, c1, c2, c3, c4, c5, c6, c7, c8, c9, c10, c11, c12, c13, c14, c15, c16, c17, c18, c19, c20, c21, c22] T (0, 0))) (a7 a15 a16 a17 a18 a19 a20 a21 : Value) :
    (((((((((w.setCell ⟨b, 7, none⟩ a7).setCell ⟨b, 15, none⟩ a15).setCell ⟨b, 16, none⟩ a16).setCell ⟨b, 17, none⟩ a17).setCell ⟨b, 18, none⟩ a18).setCell ⟨b, 19, none⟩ a19).setCell ⟨b, 20, none⟩ a20).setCell ⟨b, 21, none⟩ a21).drew).heap[b]? = some (.cells #[c0, c1, c2, c3, c4, c5, c6, a7, c8, c9, c10, c11, c12, c13, c14, a15, a16, a17, a18, a19, a20, a21, c22] T (0, 0)) := by
  have h9 := cset (cset (cset (cset (cset (cset (cset (cset h 7 a7) 15 a15) 16 a16) 17 a17) 18 a18) 19 a19) 20 a20) 21 a21
  rw [drew_heap]
  exact h9.trans (by kernel_rfl)
theorem only_s {b : Nat} {w w' : World} (h : Only (fun j => j = b) w w') (i : Nat) (v : Value) : Only (fun j => j = b) w (w'.setCell ⟨b, i, none⟩ v) := h.tr (o5s _ _ _ _)
theorem only_d {b : Nat} {w w' : World} (h : Only (fun j => j = b) w w') : Only (fun j => j = b) w w'.drew := h.tr (Only.of_ext (Ext.rf _).drew)
theorem only_x {b : Nat} {w w' : World} (h : Ext w w') : Only (fun j => j = b) w w' := Only.of_ext h
set_option maxHeartbeats 2000000 in
theorem eval_any (w : World) (mb : Nat) (vd vf ov tm t0 t1 t2 t3 t4 t5 ev v0 v1 v2 v3 v4 v5 kv over : Value) (fu en vl st : Int) (t : Tm) (A1 A2 : Option Addr) (n1 n2 m1 m2 : Nat) (p k : Option Addr) (hm : MZ w mb vd vf fu en vl ov st tm t0 t1 t2 t3 t4 t5 ev v0 v1 v2 v3 v4 v5 kv over) :
    Calls Tryz.prog 27 #[.pointer (some ⟨mb, 0, none⟩), tV t (.slice A1 n1 m1) (.slice A2 n2 m2), .pointer p, .pointer k] w fun e w' => (e = .returned (.tuple #[]) /\ MZ w' mb vd vf fu en vl ov st (.bool true) (.int .i64 t.op) (.int .i64 t.n) (.string t.nm) (.int .i64 t.ty) (.slice A1 n1 m1) (.slice A2 n2 m2) (.pointer p) v0 v1 v2 v3 v4 v5 (.pointer k) over) /\ Only (fun b => b = mb) w w' := by
  have HM := LH (hm.ext (Ext.al w (.cells #[.int .i64 t.op, .int .i64 t.n, .string t.nm, .int .i64 t.ty, .slice A1 n1 m1, .slice A2 n2 m2] 50)))
  have HE := LH (Ext.al w (.cells #[.int .i64 t.op, .int .i64 t.n, .string t.nm, .int .i64 t.ty, .slice A1 n1 m1, .slice A2 n2 m2] 50))
  obtain ⟨b0, b1, b2, b3, b4, b5⟩ := cells6 (hNw w (.cells #[.int .i64 t.op, .int .i64 t.n, .string t.nm, .int .i64 t.ty, .slice A1 n1 m1, .slice A2 n2 m2] 50))
  have hlt := hLt hm
  clear hm
  go_enter Tryz.func27, Tryz.ntmps27
  go_wp2
  generalize hw1 : w.alloc _ = w1 at *
  have c7 := cA HM.out 7
  have c8 := cA HM.out 8
  have c9 := cA HM.out 9
  have c10 := cA HM.out 10
  have c11 := cA HM.out 11
  have c12 := cA HM.out 12
  have c13 := cA HM.out 13
  have c14 := cA HM.out 14
  have c21 := cA HM.out 21
  have f7 := fA HM.out 7
  have f8 := fA HM.out 8
  have f9 := fA HM.out 9
  have f10 := fA HM.out 10
  have f11 := fA HM.out 11
  have f12 := fA HM.out 12
  have f13 := fA HM.out 13
  have f14 := fA HM.out 14
  have f21 := fA HM.out 21
  go_region
  have HZ := LH (set9 HM.out (.bool true) (.int .i64 t.op) (.int .i64 t.n) (.string t.nm) (.int .i64 t.ty) (.slice A1 n1 m1) (.slice A2 n2 m2) (.pointer p) (.pointer k))
  have HO := LH (only_d (only_s (only_s (only_s (only_s (only_s (only_s (only_s (only_s (only_s (only_x (b := mb) HE.out) 7 (.bool true)) 8 (.int .i64 t.op)) 9 (.int .i64 t.n)) 10 (.string t.nm)) 11 (.int .i64 t.ty)) 12 (.slice A1 n1 m1)) 13 (.slice A2 n2 m2)) 14 (.pointer p)) 21 (.pointer k)))
  clear c7 c8 c9 c10 c11 c12 c13 c14 c21 f7 f8 f9 f10 f11 f12 f13 f14 f21
  generalize World.drew _ = w2 at *
  go_wp2
  go_end0
  exact ⟨⟨rfl, HZ.out⟩, HO.out⟩
set_option maxHeartbeats 2000000 in
theorem passR_any (w : World) (mb : Nat) (vd vf ov tm t0 t1 t2 t3 t4 t5 ev v0 v1 v2 v3 v4 v5 kv over : Value) (fu en vl st : Int) (i n ty : Int) (A1 A2 : Option Addr) (n1 n2 m1 m2 : Nat) (p k : Option Addr) (hm : MZ w mb vd vf fu en vl ov st tm t0 t1 t2 t3 t4 t5 ev v0 v1 v2 v3 v4 v5 kv over) :
    Calls Tryz.prog 55 #[.pointer (some ⟨mb, 0, none⟩), .agg #[.int .i64 i, .int .i64 n, .int .i64 ty, .slice A1 n1 m1, .slice A2 n2 m2, .pointer p], .pointer k] w fun e w' => (e = .returned (.tuple #[]) /\ MZ w' mb vd vf fu en vl ov st (.bool false) t0 t1 t2 t3 t4 t5 ev (.int .i64 i) (.int .i64 n) (.int .i64 ty) (.slice A1 n1 m1) (.slice A2 n2 m2) (.pointer p) (.pointer k) over) /\ Only (fun b => b = mb) w w' := by
  have HM := LH (hm.ext (Ext.al w (.cells #[.int .i64 i, .int .i64 n, .int .i64 ty, .slice A1 n1 m1, .slice A2 n2 m2, .pointer p] 63)))
  have HE := LH (Ext.al w (.cells #[.int .i64 i, .int .i64 n, .int .i64 ty, .slice A1 n1 m1, .slice A2 n2 m2, .pointer p] 63))
  obtain ⟨b0, b1, b2, b3, b4, b5⟩ := cells6 (hNw w (.cells #[.int .i64 i, .int .i64 n, .int .i64 ty, .slice A1 n1 m1, .slice A2 n2 m2, .pointer p] 63))
  have hlt := hLt hm
  clear hm
  go_enter Tryz.func55, Tryz.ntmps55
  go_wp2
  generalize hw1 : w.alloc _ = w1 at *
  have c7 := cA HM.out 7
  have c15 := cA HM.out 15
  have c16 := cA HM.out 16
  have c17 := cA HM.out 17
  have c18 := cA HM.out 18
  have c19 := cA HM.out 19
  have c20 := cA HM.out 20
  have c21 := cA HM.out 21
  have f7 := fA HM.out 7
  have f15 := fA HM.out 15
  have f16 := fA HM.out 16
  have f17 := fA HM.out 17
  have f18 := fA HM.out 18
  have f19 := fA HM.out 19
  have f20 := fA HM.out 20
  have f21 := fA HM.out 21
  go_region
  have HZ := LH (set8 HM.out (.bool false) (.int .i64 i) (.int .i64 n) (.int .i64 ty) (.slice A1 n1 m1) (.slice A2 n2 m2) (.pointer p) (.pointer k))
  have HO := LH (only_d (only_s (only_s (only_s (only_s (only_s (only_s (only_s (only_s (only_x (b := mb) HE.out) 7 (.bool false)) 15 (.int .i64 i)) 16 (.int .i64 n)) 17 (.int .i64 ty)) 18 (.slice A1 n1 m1)) 19 (.slice A2 n2 m2)) 20 (.pointer p)) 21 (.pointer k)))
  clear c7 c15 c16 c17 c18 c19 c20 c21 f7 f15 f16 f17 f18 f19 f20 f21
  generalize World.drew _ = w2 at *
  go_wp2
  go_end0
  exact ⟨⟨rfl, HZ.out⟩, HO.out⟩
end Go.Proofs.YtkdglplfcpindaaGreatDoor

namespace Go.Proofs.YtkdglplfcpindaaGreatDoor
open Go.RowKit
section
variable {P : Pg} {w0 w w' : World} {bad : Nat -> Prop}
theorem RTx.slices {t : Tm} {va vc : Value} (h : RTx w0 t va vc) : ∃ A n c B m d, va = .slice A n c /\ vc = .slice B m d := by
  obtain ⟨⟨A, c, rfl, -, -⟩, ⟨B, d, rfl, -, -⟩⟩ := h.form
  exact ⟨A, _, c, B, _, d, rfl, rfl⟩
theorem DR.v_form {a : Array Value} {x : Vl} (h : DR P w0 w bad (.v a x)) : ∃ i n y A1 n1 m1 A2 n2 m2 p, a = #[.int .i64 i, .int .i64 n, .int .i64 y, .slice A1 n1 m1, .slice A2 n2 m2, .pointer p] := by
  cases h with
  | int n h => exact ⟨_, _, _, _, _, _, _, _, _, _, rfl⟩
  | con ty n a l h1 h2 h3 => obtain ⟨A, c, rfl, -, -⟩ := h3.is_form; exact ⟨_, _, _, _, _, _, _, _, _, _, rfl⟩
  | obj t e va vc ev h1 h2 => obtain ⟨A, n, c, B, m, d, rfl, rfl⟩ := h1.slices; obtain ⟨p, rfl⟩ := h2.e_form; exact ⟨_, _, _, _, _, _, _, _, _, _, rfl⟩
theorem DR.b_form {a : Array Value} {x : It} (h : DR P w0 w bad (.b a x)) : ∃ th i n y A1 n1 m1 A2 n2 m2 p i' n' s y' A3 n3 m3 A4 n4 m4 q,
    a = #[.bool th, .int .i64 i, .int .i64 n, .int .i64 y, .slice A1 n1 m1, .slice A2 n2 m2, .pointer p, .int .i64 i', .int .i64 n', .string s, .int .i64 y', .slice A3 n3 m3, .slice A4 n4 m4, .pointer q] := by
  cases h with
  | held a0 a1 a2 a3 a4 a5 x h =>
    obtain ⟨i, n, y, A1, n1, m1, A2, n2, m2, p, he⟩ := h.v_form
    simp only [Array.mk.injEq, List.cons.injEq, and_true] at he
    obtain ⟨rfl, rfl, rfl, rfl, rfl, rfl⟩ := he
    exact ⟨_, _, _, _, _, _, _, _, _, _, _, _, _, _, _, _, _, _, _, _, _, _, rfl⟩
  | thunk t e va vc ev h1 h2 => obtain ⟨A, n, c, B, m, d, rfl, rfl⟩ := h1.slices; obtain ⟨p, rfl⟩ := h2.e_form; exact ⟨_, _, _, _, _, _, _, _, _, _, _, _, _, _, _, _, _, _, _, _, _, _, rfl⟩
end
theorem cells14 {P : Nat -> Value -> Prop} {a0 a1 a2 a3 a4 a5 a6 a7 a8 a9 a10 a11 a12 a13 : Value} (h : ∀ j u, (#[a0, a1, a2, a3, a4, a5, a6, a7, a8, a9, a10, a11, a12, a13] : Array Value)[j]? = some u -> P j u) :
    P 0 a0 /\ P 1 a1 /\ P 2 a2 /\ P 3 a3 /\ P 4 a4 /\ P 5 a5 /\ P 6 a6 /\ P 7 a7 /\ P 8 a8 /\ P 9 a9 /\ P 10 a10 /\ P 11 a11 /\ P 12 a12 /\ P 13 a13 :=
  ⟨h 0 _ rfl, h 1 _ rfl, h 2 _ rfl, h 3 _ rfl, h 4 _ rfl, h 5 _ rfl, h 6 _ rfl, h 7 _ rfl, h 8 _ rfl, h 9 _ rfl, h 10 _ rfl, h 11 _ rfl, h 12 _ rfl, h 13 _ rfl⟩
set_option maxHeartbeats 4000000 in
theorem extend_any (P : Pg) (w0 w : World) (bad : Nat -> Prop) (ns : List Str) (args : List It) (vs : List (Str × It)) (ls : List (Str × Kt)) (v v1 v2 : Value) (h : DR P w0 w bad (.e v vs ls)) (h1 : RStrs w v1 ns) (h2 : DR P w0 w bad (.is v2 args)) (hlen : ns.length = args.length) (hB : NB bad w) :
    Calls Tryz.prog 28 #[v, v1, v2] w fun e w' => (∃ a, e = .returned a /\ DR P w0 w' bad (.e a (withA ns args vs) ls)) /\ Ext w w' := by
  have H := LH h
  have H1 := LH h1
  have H2 := LH h2
  have HB := LH hB
  obtain ⟨p, rfl⟩ := h.e_form
  obtain ⟨A1, c1, rfl, hc1, hm1⟩ := h1.form
  obtain ⟨A2, c2, rfl, hc2, hm2⟩ := h2.is_form
  unfold maxLen at hm1 hm2
  clear h h1 h2 hB
  go_enter Tryz.func28, Tryz.ntmps28
  go_wp2
  go_loopg [0, 11] ns.length (fun k c i wr => ∃ j : Nat, j <= ns.length /\ ns.length - j <= k /\ i = .int .i64 j /\ DR P w0 wr bad (.e c (withA (ns.take j) args vs) ls) /\ Ext w wr)
  case atStart => exact ⟨0, by omega, by omega, rfl, by simpa [withA] using H.out, Ext.rf _⟩
  case round =>
    obtain ⟨j, hj, hk, rfl, hc, hx⟩ := hrel
    have HC := LH hc
    have HX := LH hx
    obtain ⟨q, rfl⟩ := hc.e_form
    clear hc hx
    by_cases hlt : j < ns.length
    . have hlt2 : j < args.length := by omega
      obtain ⟨A', c', e1, -, -, hs⟩ := H1.out.below HX.out
      obtain ⟨b1, o1, e2, -, hs1, hs2⟩ := hs j ns[j] (List.getElem?_eq_getElem hlt)
      obtain ⟨b2, o2, c3, a, e3, ha2, ha1⟩ := (H2.out.ext HX.out).is_at (List.getElem?_eq_getElem hlt2)
      subst e2
      simp only [Value.slice.injEq] at e1 e3
      obtain ⟨rfl, -, -⟩ := e1
      obtain ⟨rfl, -, -⟩ := e3
      obtain ⟨th, i0, n0, y0, B1, k1, m1, B2, k2, m2, p2, i3, n3, s3, y3, B3, k3, m3, B4, k4, m4, p4, rfl⟩ := ha2.b_form
      obtain ⟨x0, x1, x2, x3, x4, x5, x6, x7, x8, x9, x10, x11, x12, x13⟩ := cells14 ha1
      rw [Nat.add_zero] at x0
      have HS := LH hs2
      have HA := LH ha2
      have HW := LH (withA_step ns args vs j hlt hlt2)
      clear hs2 ha2 ha1 hs
      generalize ns[j] = s at *
      generalize args[j] = x at *
      have HN := LH (hNw wr (.cells #[.bool th, .int .i64 i0, .int .i64 n0, .int .i64 y0, .slice B1 k1 m1, .slice B2 k2 m2, .pointer p2, .int .i64 i3, .int .i64 n3, .string s3, .int .i64 y3, .slice B3 k3 m3, .slice B4 k4 m4, .pointer p4] 71))
      have HE := LH (Ext.al wr (.cells #[.bool th, .int .i64 i0, .int .i64 n0, .int .i64 y0, .slice B1 k1 m1, .slice B2 k2 m2, .pointer p2, .int .i64 i3, .int .i64 n3, .string s3, .int .i64 y3, .slice B3 k3 m3, .slice B4 k4 m4, .pointer p4] 71))
      have g0 := cA HN.out 0
      have g1 := cA HN.out 1
      have g2 := cA HN.out 2
      have g3 := cA HN.out 3
      have g4 := cA HN.out 4
      have g5 := cA HN.out 5
      have g6 := cA HN.out 6
      have g7 := cA HN.out 7
      have g8 := cA HN.out 8
      have g9 := cA HN.out 9
      have g10 := cA HN.out 10
      have g11 := cA HN.out 11
      have g12 := cA HN.out 12
      have g13 := cA HN.out 13
      have hs1 := HE.out.keep hs1
      have HB3 := LH ((HB.out.ext HX.out).ext HE.out)
      have HX3 := LH (HX.out.tr HE.out)
      have HA3 := LH (HA.out.ext HE.out)
      have HC3 := LH (HC.out.ext HE.out)
      go_upto_region 4 with fail
      generalize hw1 : wr.alloc _ = w1 at *
      clear hw1
      have HN2 := LH (hNw w1.drew (.cells #[.bool false, .string s, .bool th, .int .i64 i0, .int .i64 n0, .int .i64 y0, .slice B1 k1 m1, .slice B2 k2 m2, .pointer p2, .int .i64 i3, .int .i64 n3, .string s3, .int .i64 y3, .slice B3 k3 m3, .slice B4 k4 m4, .pointer p4, zp, .pointer q] 120))
      have HE2 := LH (Ext.tr (b := w1.drew) (Ext.rf w1).drew (Ext.al w1.drew (.cells #[.bool false, .string s, .bool th, .int .i64 i0, .int .i64 n0, .int .i64 y0, .slice B1 k1 m1, .slice B2 k2 m2, .pointer p2, .int .i64 i3, .int .i64 n3, .string s3, .int .i64 y3, .slice B3 k3 m3, .slice B4 k4 m4, .pointer p4, zp, .pointer q] 120)))
      go_region
      go_wp2
      go_roundg (ns.length - (j + 1))
      case measure => omega
      case rel => exact ⟨j + 1, by omega, by omega, by go_num, by rw [HW.out]; exact .evar _ s _ _ _ _ _ _ _ _ _ _ _ _ _ _ _ x _ _ HS.out HB3.out.new HN2.out (HA3.out.ext HE2.out) (HC3.out.ext HE2.out), HX3.out.tr HE2.out⟩
    . have hjj : ns.take j = ns := List.take_of_length_le (by omega)
      have HJ := LH hjj
      clear hjj
      go_wp2
      go_ret
      exact ⟨⟨_, rfl, by have := HC.out; rw [HJ.out] at this; exact this⟩, HX.out⟩
end Go.Proofs.YtkdglplfcpindaaGreatDoor

namespace Go.Proofs.YtkdglplfcpindaaGreatDoor
open Go.RowKit
theorem ok64_in {x : Int} (h : ok64 x) : -9223372036854775808 <= x /\ x <= 9223372036854775807 := by
  unfold ok64 at h
  simpa [Lit.wf, IntKind.min, IntKind.max, IntKind.signed, IntKind.bits] using h
theorem wrap64_in {x : Int} (h : ok64 x) : wrap64 x = x := by
  rw [w64]; unfold wr64
  have := ok64_in h
  omega
set_option maxHeartbeats 2000000 in
theorem primRef_any (n a b : Int) (w : World) (hn : 0 <= n /\ n <= 6) (ha : ok64 a) : Calls Tryz.prog 56 #[.int .i64 n, .int .i64 a, .int .i64 b] w fun e w' => e = .returned (.int .i64 (primR n a b)) /\ w = w' := by
  have : n = 0 ∨ n = 1 ∨ n = 2 ∨ n = 3 ∨ n = 4 ∨ n = 5 ∨ n = 6 := by omega
  rcases this with rfl | rfl | rfl | rfl | rfl | rfl | rfl
  case inr.inr.inr.inr.inr.inl =>
    have HP : Hid (primR 5 a b = if a = b then 1 else 0) := rfl
    generalize primR 5 a b = r at *
    by_cases hab : a = b
    . have hq : (a == b) = true := by simpa using hab
      have HAB := LH hab
      clear hab
      go_enter Tryz.func56, Tryz.ntmps56
      go_wp2
      go_ret
      exact ⟨by rw [HP.out, if_pos HAB.out]; rfl, rfl⟩
    . have hq : (a == b) = false := by simpa using hab
      have HAB := LH hab
      clear hab
      go_enter Tryz.func56, Tryz.ntmps56
      go_wp2
      go_ret
      exact ⟨by rw [HP.out, if_neg HAB.out]; rfl, rfl⟩
  case inr.inr.inr.inr.inr.inr =>
    have HP : Hid (primR 6 a b = if a < b then 1 else 0) := rfl
    generalize primR 6 a b = r at *
    by_cases hab : a < b
    . have HAB := LH hab
      go_enter Tryz.func56, Tryz.ntmps56
      go_wp2
      go_ret
      exact ⟨by rw [HP.out, if_pos HAB.out]; rfl, rfl⟩
    . have HAB := LH hab
      have hab2 : b <= a := by omega
      clear hab
      go_enter Tryz.func56, Tryz.ntmps56
      go_wp2
      go_ret
      exact ⟨by rw [HP.out, if_neg (by have := HAB.out; omega)]; rfl, rfl⟩
  case inr.inr.inr.inl =>
    have HP : Hid (primR 3 a b = if b = 0 then 0 else wrap64 (a.tdiv b)) := by show _ = _; rw [w64]; rfl
    generalize primR 3 a b = r at *
    by_cases hb : b = 0
    . subst hb
      go_enter Tryz.func56, Tryz.ntmps56
      go_wp2
      go_ret
      exact ⟨by rw [HP.out]; rfl, rfl⟩
    . have hq : (b == 0) = false := by simpa using hb
      have HB := LH hb
      go_enter Tryz.func56, Tryz.ntmps56
      go_wp2
      go_ret
      exact ⟨by rw [HP.out, if_neg HB.out]; rfl, rfl⟩
  case inr.inr.inr.inr.inl =>
    have HP : Hid (primR 4 a b = wrap64 (a - wrap64 (b * (if b = 0 then 0 else wrap64 (a.tdiv b))))) := by show _ = _; rw [w64, w64, w64]; rfl
    have HA : Hid (primR 4 a 0 = a) := by show _ = _; rw [primR_4, show quotP a 0 = 0 from rfl, Int.mul_zero, show wrap64 0 = 0 by rw [w64]; decide, Int.sub_zero]; exact wrap64_in ha
    by_cases hb : b = 0
    . subst hb
      clear HP
      go_enter Tryz.func56, Tryz.ntmps56
      go_wp2
      go_ret
      exact ⟨by rw [HA.out]; rfl, rfl⟩
    . have hq : (b == 0) = false := by simpa using hb
      have HB := LH hb
      go_enter Tryz.func56, Tryz.ntmps56
      go_wp2
      go_ret
      exact ⟨by rw [HP.out, if_neg HB.out, Int.mul_comm]; rfl, rfl⟩
  all_goals
    go_enter Tryz.func56, Tryz.ntmps56
    go_wp2
    go_ret
    exact ⟨by first | (rw [primR_0]; rfl) | (rw [primR_1]; rfl) | (rw [primR_2]; rfl), rfl⟩
end Go.Proofs.YtkdglplfcpindaaGreatDoor
