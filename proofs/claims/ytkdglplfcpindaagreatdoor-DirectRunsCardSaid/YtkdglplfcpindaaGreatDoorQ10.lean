import Derived.Test.YtkdglplfcpindaaGreatDoorQ9
import Derived.Deep.LoopGhost
import Derived.Lib.Hide
import Derived.WalkKit
import Derived.Deep.QuietTactic
import Derived.BigQuiet
import Derived.OwnWalk
import Derived.Maps.AppendAt
import Derived.Deep.RegionWith
set_option maxRecDepth 100000
namespace Go.Proofs.YtkdglplfcpindaaGreatDoor
open Go.RowKit
section
variable {P : Pg} {w0 w : World} {bad : Nat -> Prop} {mb : Nat}
theorem D5.vs_nil {v : Value} (h : D5 P w0 w bad mb (.vs v [])) : v = .pointer none := by cases h; rfl
theorem D5.ls_nil {v : Value} (h : D5 P w0 w bad mb (.ls v [])) : v = .pointer none := by cases h; rfl
theorem D5.vs_cons {v : Value} {s : Str} {x : It} {l : List (Str × It)} (h : D5 P w0 w bad mb (.vs v ((s, x) :: l))) : ∃ b a p, v = .pointer (some ⟨b, 0, none⟩) /\ s.size <= maxLen /\ ¬ bad b /\ w.heap[b]? = some (.cells #[.string s, a, p] 235 (0, 0)) /\ D5 P w0 w bad mb (.i a x) /\ D5 P w0 w bad mb (.vs p l) := by
  cases h with
  | vcons b _ a p _ _ h0 h1 h2 h3 h4 => exact ⟨b, a, p, rfl, h0, h1, h2, h3, h4⟩
theorem D5.ls_cons {v : Value} {s : Str} {x : Kt} {l : List (Str × Kt)} (h : D5 P w0 w bad mb (.ls v ((s, x) :: l))) : ∃ b a p, v = .pointer (some ⟨b, 0, none⟩) /\ s.size <= maxLen /\ ¬ bad b /\ w.heap[b]? = some (.cells #[.string s, a, p] 287 (0, 0)) /\ D5 P w0 w bad mb (.k a x) /\ D5 P w0 w bad mb (.ls p l) := by
  cases h with
  | lcons b _ a p _ _ h0 h1 h2 h3 h4 => exact ⟨b, a, p, rfl, h0, h1, h2, h3, h4⟩
theorem D5.vs_form {v : Value} {l : List (Str × It)} (h : D5 P w0 w bad mb (.vs v l)) : ∃ p, v = .pointer p := by
  cases l with
  | nil => exact ⟨_, h.vs_nil⟩
  | cons a l => obtain ⟨b, a, p, rfl, -⟩ := D5.vs_cons (s := a.1) (x := a.2) h; exact ⟨_, rfl⟩
theorem D5.ls_form {v : Value} {l : List (Str × Kt)} (h : D5 P w0 w bad mb (.ls v l)) : ∃ p, v = .pointer p := by
  cases l with
  | nil => exact ⟨_, h.ls_nil⟩
  | cons a l => obtain ⟨b, a, p, rfl, -⟩ := D5.ls_cons (s := a.1) (x := a.2) h; exact ⟨_, rfl⟩
theorem D5.v_form {v : Value} {x : Vl} (h : D5 P w0 w bad mb (.v v x)) : ∃ t u, v = .iface t u := by cases h <;> exact ⟨_, _, rfl⟩
theorem D5.i_form {v : Value} {x : It} (h : D5 P w0 w bad mb (.i v x)) : ∃ t u, v = .iface t u := by cases h <;> exact ⟨_, _, rfl⟩
theorem D5.k_form {v : Value} {x : Kt} (h : D5 P w0 w bad mb (.k v x)) : ∃ t u, v = .iface t u := by cases h <;> exact ⟨_, _, rfl⟩
theorem D5.is_form {v : Value} {l : List It} (h : D5 P w0 w bad mb (.is v l)) : ∃ A c, v = .slice A l.length c /\ l.length <= c /\ c <= maxLen := by
  cases h with
  | inil => exact ⟨none, 0, rfl, Nat.le_refl _, Nat.zero_le _⟩
  | icons b o c a _ h0 h1 h2 h3 h4 => exact ⟨_, c, rfl, h0, h1⟩
end
set_option maxHeartbeats 1000000 in
theorem findI_any (P : Pg) (w0 w : World) (bad : Nat -> Prop) (mb : Nat) (l : List (Str × It)) (v : Value) (s : Str) (x : It) (h : D5 P w0 w bad mb (.vs v l)) (hx : findA l s = some x) :
    Calls Tryz.prog 191 #[v, .string s] w fun e w' => (∃ a, e = .returned a /\ D5 P w0 w bad mb (.i a x)) /\ w = w' := by
  have H := LH h
  have HX := LH hx
  obtain ⟨p, rfl⟩ := h.vs_form
  clear h hx
  go_enter Tryz.func191, Tryz.ntmps191
  go_wp2
  go_loopg [0] l.length (fun k b wr => ∃ r : List (Str × It), w = wr /\ r.length <= k /\ D5 P w0 w bad mb (.vs b r) /\ findA r s = some x)
  case atStart => exact ⟨l, rfl, Nat.le_refl _, H.out, HX.out⟩
  case round =>
    obtain ⟨r, rfl, hk, hb, hr⟩ := hrel
    have HN := LH hr
    cases r with
    | nil => exact absurd hr (by simp [findA])
    | cons a r =>
      obtain ⟨y, z⟩ := a
      clear hr
      obtain ⟨b, a, u, rfl, h0, -, hblk, hi, hrest⟩ := hb.vs_cons
      obtain ⟨q, rfl⟩ := hrest.vs_form
      have HI := LH hi
      have HRB := LH hrest
      have c0 := cA hblk 0
      have c1 := cA hblk 1
      have c2 := cA hblk 2
      clear hrest hb hi hblk
      cases hq : (y.toList == s.toList)
      . have HQ := LH hq
        go_wp2
        go_roundg r.length
        case measure => simp at hk; omega
        case rel => exact ⟨r, rfl, Nat.le_refl _, HRB.out, by have := HN.out; rw [findA, HQ.out] at this; exact this⟩
      . have HQ := LH hq
        go_wp2
        go_ret
        exact ⟨⟨_, rfl, by have := HN.out; rw [findA, HQ.out] at this; simp at this; exact this ▸ HI.out⟩, rfl⟩
set_option maxHeartbeats 1000000 in
theorem findL_any (P : Pg) (w0 w : World) (bad : Nat -> Prop) (mb : Nat) (l : List (Str × Kt)) (v : Value) (s : Str) (x : Kt) (h : D5 P w0 w bad mb (.ls v l)) (hx : findA l s = some x) :
    Calls Tryz.prog 192 #[v, .string s] w fun e w' => (∃ a, e = .returned a /\ D5 P w0 w bad mb (.k a x)) /\ w = w' := by
  have H := LH h
  have HX := LH hx
  obtain ⟨p, rfl⟩ := h.ls_form
  clear h hx
  go_enter Tryz.func192, Tryz.ntmps192
  go_wp2
  go_loopg [0] l.length (fun k b wr => ∃ r : List (Str × Kt), w = wr /\ r.length <= k /\ D5 P w0 w bad mb (.ls b r) /\ findA r s = some x)
  case atStart => exact ⟨l, rfl, Nat.le_refl _, H.out, HX.out⟩
  case round =>
    obtain ⟨r, rfl, hk, hb, hr⟩ := hrel
    have HN := LH hr
    cases r with
    | nil => exact absurd hr (by simp [findA])
    | cons a r =>
      obtain ⟨y, z⟩ := a
      clear hr
      obtain ⟨b, a, u, rfl, h0, -, hblk, hi, hrest⟩ := hb.ls_cons
      obtain ⟨q, rfl⟩ := hrest.ls_form
      have HI := LH hi
      have HRB := LH hrest
      have c0 := cA hblk 0
      have c1 := cA hblk 1
      have c2 := cA hblk 2
      clear hrest hb hi hblk
      cases hq : (y.toList == s.toList)
      . have HQ := LH hq
        go_wp2
        go_roundg r.length
        case measure => simp at hk; omega
        case rel => exact ⟨r, rfl, Nat.le_refl _, HRB.out, by have := HN.out; rw [findA, HQ.out] at this; exact this⟩
      . have HQ := LH hq
        go_wp2
        go_ret
        exact ⟨⟨_, rfl, by have := HN.out; rw [findA, HQ.out] at this; simp at this; exact this ▸ HI.out⟩, rfl⟩
end Go.Proofs.YtkdglplfcpindaaGreatDoor

namespace Go.Proofs.YtkdglplfcpindaaGreatDoor
open Go.RowKit
theorem withA_step {α : Type} : ∀ (ns : List Str) (args : List α) (l : List (Str × α)) (k : Nat) (h : k < ns.length) (h2 : k < args.length), withA (ns.take (k + 1)) args l = (ns[k], args[k]) :: withA (ns.take k) args l
  | s :: r, y :: q, l, 0, _, _ => by cases r <;> cases q <;> simp [withA]
  | s :: r, y :: q, l, k + 1, h, h2 => by
    simp only [List.take_succ_cons, withA, List.getElem_cons_succ]
    exact withA_step r q ((s, y) :: l) k (by simpa using h) (by simpa using h2)
def NB (bad : Nat -> Prop) (w : World) : Prop := ∀ b, bad b -> b < w.heap.size
theorem NB.new {bad : Nat -> Prop} {w : World} (h : NB bad w) : ¬ bad w.heap.size := fun hb => Nat.lt_irrefl _ (h _ hb)
theorem NB.ext {bad : Nat -> Prop} {w w' : World} (h : NB bad w) (hb : Ext w w') : NB bad w' := fun b k => Nat.lt_of_lt_of_le (h b k) hb.size
section
variable {P : Pg} {w0 w w' : World} {bad : Nat -> Prop} {mb : Nat}
theorem D5.ext {x : DX} (h : D5 P w0 w bad mb x) (hb : Ext w w') : D5 P w0 w' bad mb x := h.kp (Kp.of_ext hb)
theorem D5.is_at {v : Value} {l : List It} {i : Nat} {x : It} (h : D5 P w0 w bad mb (.is v l)) (hi : l[i]? = some x) : ∃ b o c a, v = .slice (some ⟨b, o, none⟩) l.length c /\ w.cell? ⟨b, o + i, none⟩ = some a /\ D5 P w0 w bad mb (.i a x) := by
  cases h with
  | inil => simp at hi
  | icons b o c a _ h0 h1 h2 h3 h4 => exact ⟨b, o, c, a i, rfl, h3 i (List.getElem?_eq_some_iff.1 hi).1, h4 i x hi⟩
end
set_option maxHeartbeats 1000000 in
theorem withI_any (P : Pg) (w0 w : World) (bad : Nat -> Prop) (mb : Nat) (ns : List Str) (args : List It) (l : List (Str × It)) (v v1 v2 : Value) (h : D5 P w0 w bad mb (.vs v l)) (h1 : RStrs w v1 ns) (h2 : D5 P w0 w bad mb (.is v2 args)) (hlen : ns.length <= args.length) (hB : NB bad w) :
    Calls Tryz.prog 110 #[v, v1, v2] w fun e w' => (∃ a, e = .returned a /\ D5 P w0 w' bad mb (.vs a (withA ns args l))) /\ Ext w w' := by
  have H := LH h
  have H1 := LH h1
  have H2 := LH h2
  have HB := LH hB
  obtain ⟨p, rfl⟩ := h.vs_form
  obtain ⟨A1, c1, rfl, hc1, hm1⟩ := h1.form
  obtain ⟨A2, c2, rfl, hc2, hm2⟩ := h2.is_form
  unfold maxLen at hm1 hm2
  clear h h1 h2 hB
  go_enter Tryz.func110, Tryz.ntmps110
  go_wp2
  go_loopg [0, 11] ns.length (fun k c i wr => ∃ j : Nat, j <= ns.length /\ ns.length - j <= k /\ i = .int .i64 j /\ D5 P w0 wr bad mb (.vs c (withA (ns.take j) args l)) /\ Ext w wr)
  case atStart => exact ⟨0, by omega, by omega, rfl, by simpa [withA] using H.out, Ext.rf _⟩
  case round =>
    obtain ⟨j, hj, hk, rfl, hc, hx⟩ := hrel
    have HC := LH hc
    have HX := LH hx
    obtain ⟨q, rfl⟩ := hc.vs_form
    clear hc hx
    by_cases hlt : j < ns.length
    . have hlt2 : j < args.length := by omega
      obtain ⟨A', c', e1, -, -, hs⟩ := H1.out.below HX.out
      obtain ⟨b1, o1, e2, -, hs1, hs2⟩ := hs j ns[j] (List.getElem?_eq_getElem hlt)
      obtain ⟨b2, o2, c3, a, e3, ha1, ha2⟩ := (H2.out.ext HX.out).is_at (List.getElem?_eq_getElem hlt2)
      subst e2
      simp only [Value.slice.injEq] at e1 e3
      obtain ⟨rfl, -, -⟩ := e1
      obtain ⟨rfl, -, -⟩ := e3
      obtain ⟨ta, ua, rfl⟩ := ha2.i_form
      have HS := LH hs2
      have HA := LH ha2
      have HW := LH (withA_step ns args l j hlt hlt2)
      have HN := LH (hNw wr (.cells #[.string ns[j], .iface ta ua, .pointer q] 235))
      have HE := LH (Ext.al wr (.cells #[.string ns[j], .iface ta ua, .pointer q] 235))
      clear hs2 ha2 hs
      generalize ns[j] = s at *
      generalize args[j] = x at *
      go_wp2
      go_roundg (ns.length - (j + 1))
      case measure => omega
      case rel => exact ⟨j + 1, by omega, by omega, by go_num, by rw [HW.out]; exact .vcons _ s (.iface ta ua) _ x _ HS.out (HB.out.ext HX.out).new HN.out (HA.out.ext HE.out) (HC.out.ext HE.out), HX.out.tr HE.out⟩
    . have hjj : ns.take j = ns := List.take_of_length_le (by omega)
      have HJ := LH hjj
      clear hjj
      go_wp2
      go_ret
      exact ⟨⟨_, rfl, by have := HC.out; rw [HJ.out] at this; exact this⟩, HX.out⟩
theorem withL_any (P : Pg) (w0 w : World) (bad : Nat -> Prop) (mb : Nat) (s : Str) (x : Kt) (l : List (Str × Kt)) (v kv : Value) (b1 b2 : Nat) (h : D5 P w0 w bad mb (.ls v l)) (h1 : w.cell? ⟨b1, 0, none⟩ = some (.string s)) (h2 : w.cell? ⟨b2, 0, none⟩ = some kv) (h3 : D5 P w0 w bad mb (.k kv x)) (hs : s.size <= maxLen) (hB : NB bad w) :
    Calls Tryz.prog 193 #[v, .slice (some ⟨b1, 0, none⟩) 1 1, .slice (some ⟨b2, 0, none⟩) 1 1] w fun e w' => (∃ a, e = .returned a /\ D5 P w0 w' bad mb (.ls a ((s, x) :: l))) /\ Ext w w' := by
  have H := LH h
  have H3 := LH h3
  have HB := LH hB
  have HS := LH hs
  obtain ⟨p, rfl⟩ := h.ls_form
  obtain ⟨tk, uk, rfl⟩ := h3.k_form
  have HN := LH (hNw w (.cells #[.string s, .iface tk uk, .pointer p] 287))
  have HE := LH (Ext.al w (.cells #[.string s, .iface tk uk, .pointer p] 287))
  clear h h3 hB hs
  go_enter Tryz.func193, Tryz.ntmps193
  go_wp2
  go_loopg [0, 11] 1 (fun k c i wr => (i = .int .i64 0 /\ 1 <= k /\ c = .pointer p /\ w = wr) ∨ (i = .int .i64 1 /\ D5 P w0 wr bad mb (.ls c ((s, x) :: l)) /\ Ext w wr))
  case atStart => exact .inl ⟨rfl, Nat.le_refl _, rfl, rfl⟩
  case round =>
    rcases hrel with ⟨rfl, hk, rfl, rfl⟩ | ⟨rfl, hd, hx⟩
    . go_wp2
      go_roundg 0
      case measure => omega
      case rel => exact .inr ⟨rfl, .lcons _ s (.iface tk uk) _ x _ HS.out HB.out.new HN.out (H3.out.ext HE.out) (H.out.ext HE.out), HE.out⟩
    . have HD := LH hd
      have HX := LH hx
      obtain ⟨q, rfl⟩ := hd.ls_form
      clear hd hx
      go_wp2
      go_ret
      exact ⟨⟨_, rfl, HD.out⟩, HX.out⟩
end Go.Proofs.YtkdglplfcpindaaGreatDoor

namespace Go.Proofs.YtkdglplfcpindaaGreatDoor
open Go.RowKit
def bx (bad : Nat -> Prop) (lo hi : Nat) (b : Nat) : Prop := bad b ∨ (lo <= b /\ b < hi)
theorem Kp.into {bad : Nat -> Prop} {w w1 : World} (h : Ext w w1) (hi : Nat) : Kp bad (bx bad w.heap.size hi) w w1 :=
  ⟨h.size, fun b hb hn => ⟨fun k => k.elim hn (fun k => by omega), h.block b hb⟩⟩
theorem NB.into {bad : Nat -> Prop} {w w1 : World} (h : NB bad w) (hx : Ext w w1) {hi : Nat} (hh : hi <= w1.heap.size) : NB (bx bad w.heap.size hi) w1 :=
  fun b k => k.elim (fun k => Nat.lt_of_lt_of_le (h b k) hx.size) (fun k => by omega)
theorem Kp.outof {bad : Nat -> Prop} {lo hi : Nat} {w w1 : World} (h : Only (fun b => lo <= b /\ b < hi) w w1) : Kp (bx bad lo hi) bad w w1 :=
  ⟨h.size, fun b hb hn => ⟨fun k => hn (.inl k), h.block b hb (fun k => hn (.inr k))⟩⟩
theorem Only.belowX {lo hi : Nat} {w w1 w2 : World} (hx : Ext w w1) (h : Only (fun b => lo <= b /\ b < hi) w1 w2) (hl : w.heap.size <= lo) : Ext w w2 :=
  hx.trans (h.below hx.size (fun k e => by omega))
theorem set5_one {w : World} {r T : Nat} {a b : Value} (h : w.heap[r]? = some (.cells #[a, b] T (0, 0))) (v : Value) : (w.setCell ⟨r, 0, none⟩ v).heap[r]? = some (.cells #[v, b] T (0, 0)) := by
  simp [World.setCell, Array.getElem?_modify, h]
theorem set5_two {w : World} {r T : Nat} {a b : Value} (h : w.heap[r]? = some (.cells #[a, b] T (0, 0))) (v : Value) : (w.setCell ⟨r, 1, none⟩ v).heap[r]? = some (.cells #[a, v] T (0, 0)) := by
  simp [World.setCell, Array.getElem?_modify, h]
theorem s5o {w : World} {r q : Nat} {o : Obj} (h : w.heap[q]? = some o) (hne : q ≠ r) (i : Nat) (v : Value) : (w.setCell ⟨r, i, none⟩ v).heap[q]? = some o := by
  simp [World.setCell, Array.getElem?_modify, h, hne.symm]
theorem box5_both {w : World} {r T : Nat} {a b : Value} (h : w.heap[r]? = some (.cells #[a, b] T (0, 0))) (a' b' : Value) : ((w.setCell ⟨r, 0, none⟩ a').setCell ⟨r, 1, none⟩ b').heap[r]? = some (.cells #[a', b'] T (0, 0)) := by
  simp [World.setCell, Array.getElem?_modify, h]
set_option maxHeartbeats 1000000 in
theorem ebind_any (P : Pg) (w0 w : World) (bad : Nat -> Prop) (mb : Nat) (ns : List Str) (args : List It) (l : List (Str × It)) (m : List (Str × Kt)) (pv pl v1 v2 : Value) (h : D5 P w0 w bad mb (.vs pv l)) (h0 : D5 P w0 w bad mb (.ls pl m)) (h1 : RStrs w v1 ns) (h2 : D5 P w0 w bad mb (.is v2 args)) (hlen : ns.length <= args.length) (hB : NB bad w) :
    Calls Tryz.prog 71 #[.agg #[pv, pl], v1, v2] w fun e w' => (∃ a, e = .returned (.agg #[a, pl]) /\ D5 P w0 w' bad mb (.vs a (withA ns args l))) /\ Ext w w' := by
  have H := LH h
  have H1 := LH h1
  have H2 := LH h2
  have HB := LH hB
  obtain ⟨p, rfl⟩ := h.vs_form
  obtain ⟨q, rfl⟩ := h0.ls_form
  obtain ⟨A1, c1, rfl, hc1, hm1⟩ := h1.form
  obtain ⟨A2, c2, rfl, hc2, hm2⟩ := h2.is_form
  clear h h0 h1 h2 hB
  have HE := LH (Ext.al2 w (.cells #[.pointer p, .pointer q] 156) (.cells #[.pointer none, .pointer none] 156))
  have hb1 := hNw w (.cells #[.pointer p, .pointer q] 156)
  have hbz := hNw (w.alloc (.cells #[.pointer p, .pointer q] 156)) (.cells #[.pointer none, .pointer none] 156)
  rw [World.size_alloc] at hbz
  have HB1 := LH (((Ext.al (w.alloc (.cells #[.pointer p, .pointer q] 156)) (.cells #[.pointer none, .pointer none] 156)).block _ (hLt hb1)).trans hb1)
  have HBZ := LH hbz
  clear hb1 hbz
  have HZ : Hid (((w.alloc (.cells #[.pointer p, .pointer q] 156)).alloc (.cells #[.pointer none, .pointer none] 156)).heap.size = w.heap.size + 2) := by show _ = _; simp
  have c0 := cA HB1.out 0
  go_enter Tryz.func71, Tryz.ntmps71
  go_wp2_with fail
  generalize World.alloc (World.alloc w _) _ = w1 at *
  have HNB : Hid (NB (bx bad w.heap.size (w.heap.size + 2)) w1) := HB.out.into HE.out (Nat.le_of_eq HZ.out.symm)
  have HK : Hid (Kp bad (bx bad w.heap.size (w.heap.size + 2)) w w1) := Kp.into HE.out _
  (with_reducible refine (withI_any P w0 _ (bx bad w.heap.size (w.heap.size + 2)) mb ns args l _ _ _ (H.out.kp HK.out) (H1.out.below HE.out) (H2.out.kp HK.out) hlen HNB.out).mono ?_)
  rintro e w2 ⟨⟨a, rfl, hr⟩, hx⟩
  obtain ⟨pa, rfl⟩ := hr.vs_form
  have HR := LH hr
  have HX := LH hx
  clear hr
  have HB2 := LH ((hx.block _ (hLt HB1.out)).trans HB1.out)
  have HBZ2 := LH ((hx.block _ (hLt HBZ.out)).trans HBZ.out)
  clear hx c0
  have c0 := cA HB2.out 0
  have c1 := cA HB2.out 1
  have f0 := fA HB2.out 0
  have g0 := fA HBZ2.out 0
  have g1 := fA HBZ2.out 1
  have HS := LH (set5_one HB2.out (.pointer pa))
  have HSZ := LH (s5o HBZ2.out (show w.heap.size + 1 ≠ w.heap.size by omega) 0 (.pointer pa))
  have HO1 : Hid (Only (fun k => w.heap.size <= k /\ k < w.heap.size + 2) w2 (w2.setCell ⟨w.heap.size, 0, none⟩ (.pointer pa))) := Only.setCell (C := fun k => w.heap.size <= k /\ k < w.heap.size + 2) (p := ⟨w.heap.size, 0, none⟩) ⟨Nat.le_refl _, by simp⟩ _ _
  go_upto_region 2 with fail
  generalize w2.setCell _ _ = w3 at *
  clear c0 c1 f0 g0 g1
  have c0 := cA HS.out 0
  have c1 := cA HS.out 1
  have g0 := fA HSZ.out 0
  have g1 := fA HSZ.out 1
  have z0 := cA HSZ.out 0
  have z1 := cA HSZ.out 1
  go_wp2
  have HZZ := LH (box5_both HSZ.out (.pointer pa) (.pointer q))
  have HOZ : Hid (Only (fun k => w.heap.size <= k /\ k < w.heap.size + 2) w3 ((w3.setCell ⟨w.heap.size + 1, 0, none⟩ (.pointer pa)).setCell ⟨w.heap.size + 1, 1, none⟩ (.pointer q))) := (Only.setCell (C := fun k => w.heap.size <= k /\ k < w.heap.size + 2) (p := ⟨w.heap.size + 1, 0, none⟩) ⟨by simp, by simp⟩ _ _).tr (Only.setCell (C := fun k => w.heap.size <= k /\ k < w.heap.size + 2) (p := ⟨w.heap.size + 1, 1, none⟩) ⟨by simp, by simp⟩ _ _)
  clear c0 c1 g0 g1 z0 z1
  generalize World.setCell (World.setCell w3 _ _) _ _ = wz at *
  have q0 := cA HZZ.out 0
  have q1 := cA HZZ.out 1
  have HO : Hid (Only (fun k => w.heap.size <= k /\ k < w.heap.size + 2) w2 wz) := HO1.out.tr HOZ.out
  exact bodyPost_ret (v := .agg #[.pointer pa, .pointer q]) (by simp [results, Tryz.results71, go_sem, q0, q1]) rfl ⟨⟨_, rfl, HR.out.kp (Kp.outof HO.out)⟩, Only.belowX (HE.out.tr HX.out) HO.out (Nat.le_refl _)⟩
theorem bx5_four (w : World) (a b c d : Obj) : ((((w.alloc a).alloc b).alloc c).alloc d).heap[w.heap.size]? = some a /\ ((((w.alloc a).alloc b).alloc c).alloc d).heap[w.heap.size + 1]? = some b /\ ((((w.alloc a).alloc b).alloc c).alloc d).heap[w.heap.size + 1 + 1]? = some c /\ ((((w.alloc a).alloc b).alloc c).alloc d).heap[w.heap.size + 1 + 1 + 1]? = some d /\ ((((w.alloc a).alloc b).alloc c).alloc d).heap.size = w.heap.size + 4 /\ Ext w ((((w.alloc a).alloc b).alloc c).alloc d) := by
  have h : ∀ (w : World) (o : Obj), (w.alloc o).heap.size = w.heap.size + 1 := fun w o => World.size_alloc ..
  have k : ∀ (w : World) (o o' : Obj) (n : Nat), w.heap[n]? = some o' -> (w.alloc o).heap[n]? = some o' := fun w o o' n hn => ((Ext.al w o).block _ (hLt hn)).trans hn
  have e : ∀ (w : World) (o : Obj) (n : Nat), n = w.heap.size -> (w.alloc o).heap[n]? = some o := fun w o n hn => hn ▸ hNw w o
  refine ⟨k _ _ _ _ (k _ _ _ _ (k _ _ _ _ (e _ _ _ rfl))), k _ _ _ _ (k _ _ _ _ (e _ _ _ (by rw [h]))), k _ _ _ _ (e _ _ _ (by rw [h, h])), e _ _ _ (by rw [h, h, h]), by rw [h, h, h, h], (((Ext.al _ _).tr (Ext.al _ _)).tr (Ext.al _ _)).tr (Ext.al _ _)⟩
set_option maxHeartbeats 1000000 in
theorem emark_any (P : Pg) (w0 w : World) (bad : Nat -> Prop) (mb : Nat) (s : Str) (x : Kt) (l : List (Str × It)) (m : List (Str × Kt)) (pv pl kv : Value) (h : D5 P w0 w bad mb (.vs pv l)) (h0 : D5 P w0 w bad mb (.ls pl m)) (h3 : D5 P w0 w bad mb (.k kv x)) (hs : s.size <= maxLen) (hB : NB bad w) :
    Calls Tryz.prog 194 #[.agg #[pv, pl], .string s, kv] w fun e w' => (∃ a, e = .returned (.agg #[pv, a]) /\ D5 P w0 w' bad mb (.ls a ((s, x) :: m))) /\ Ext w w' := by
  have H := LH h0
  have H3 := LH h3
  have HB := LH hB
  obtain ⟨p, rfl⟩ := h.vs_form
  obtain ⟨q, rfl⟩ := h0.ls_form
  obtain ⟨tk, uk, rfl⟩ := h3.k_form
  clear h h0 h3 hB
  obtain ⟨hb1, hbz, hb3, hb4, hsz, he⟩ := bx5_four w (.cells #[.pointer p, .pointer q] 156) (.cells #[.pointer none, .pointer none] 156) (.cells #[.string s] 9) (.cells #[.iface tk uk] 152)
  have HB1 := LH hb1
  have HBZ := LH hbz
  have HB3 := LH hb3
  have HB4 := LH hb4
  have HZ := LH hsz
  have HE := LH he
  clear hb1 hbz hb3 hb4 hsz he
  have hc1 := hNw w (.cells #[.pointer p, .pointer q] 156)
  have hc2 := ((Ext.al (w.alloc (.cells #[.pointer p, .pointer q] 156)) (.cells #[.pointer none, .pointer none] 156)).block _ (hLt hc1)).trans hc1
  have c1 := cA hc2 1
  clear hc1 hc2
  go_enter Tryz.func194, Tryz.ntmps194
  go_wp2_with fail
  generalize World.alloc (World.alloc (World.alloc (World.alloc w _) _) _) _ = w1 at *
  have HNB : Hid (NB (bx bad w.heap.size (w.heap.size + 2)) w1) := HB.out.into HE.out (by rw [HZ.out]; omega)
  have HK : Hid (Kp bad (bx bad w.heap.size (w.heap.size + 2)) w w1) := Kp.into HE.out _
  have y0 : Hid (w1.cell? ⟨w.heap.size + 1 + 1, 0, none⟩ = some (.string s)) := cA HB3.out 0
  have y1 : Hid (w1.cell? ⟨w.heap.size + 1 + 1 + 1, 0, none⟩ = some (.iface tk uk)) := cA HB4.out 0
  (with_reducible refine (withL_any P w0 _ (bx bad w.heap.size (w.heap.size + 2)) mb s x m _ _ _ _ (H.out.kp HK.out) y0.out y1.out (H3.out.kp HK.out) hs HNB.out).mono ?_)
  rintro e w2 ⟨⟨a, rfl, hr⟩, hx⟩
  obtain ⟨pa, rfl⟩ := hr.ls_form
  have HR := LH hr
  have HX := LH hx
  clear hr
  have HB2 := LH ((hx.block _ (hLt HB1.out)).trans HB1.out)
  have HBZ2 := LH ((hx.block _ (hLt HBZ.out)).trans HBZ.out)
  clear hx c1
  have c0 := cA HB2.out 0
  have c1 := cA HB2.out 1
  have f0 := fA HB2.out 1
  have HS := LH (set5_two HB2.out (.pointer pa))
  have HSZ := LH (s5o HBZ2.out (show w.heap.size + 1 ≠ w.heap.size by omega) 1 (.pointer pa))
  have HO1 : Hid (Only (fun k => w.heap.size <= k /\ k < w.heap.size + 2) w2 (w2.setCell ⟨w.heap.size, 1, none⟩ (.pointer pa))) := Only.setCell (C := fun k => w.heap.size <= k /\ k < w.heap.size + 2) (p := ⟨w.heap.size, 1, none⟩) ⟨Nat.le_refl _, by simp⟩ _ _
  go_upto_region 2 with fail
  generalize w2.setCell _ _ = w3 at *
  clear c0 c1 f0
  have c0 := cA HS.out 0
  have c1 := cA HS.out 1
  have g0 := fA HSZ.out 0
  have g1 := fA HSZ.out 1
  have z0 := cA HSZ.out 0
  have z1 := cA HSZ.out 1
  go_wp2
  have HZZ := LH (box5_both HSZ.out (.pointer p) (.pointer pa))
  have HOZ : Hid (Only (fun k => w.heap.size <= k /\ k < w.heap.size + 2) w3 ((w3.setCell ⟨w.heap.size + 1, 0, none⟩ (.pointer p)).setCell ⟨w.heap.size + 1, 1, none⟩ (.pointer pa))) := (Only.setCell (C := fun k => w.heap.size <= k /\ k < w.heap.size + 2) (p := ⟨w.heap.size + 1, 0, none⟩) ⟨by simp, by simp⟩ _ _).tr (Only.setCell (C := fun k => w.heap.size <= k /\ k < w.heap.size + 2) (p := ⟨w.heap.size + 1, 1, none⟩) ⟨by simp, by simp⟩ _ _)
  clear c0 c1 g0 g1 z0 z1
  generalize World.setCell (World.setCell w3 _ _) _ _ = wz at *
  have q0 := cA HZZ.out 0
  have q1 := cA HZZ.out 1
  have HO : Hid (Only (fun k => w.heap.size <= k /\ k < w.heap.size + 2) w2 wz) := HO1.out.tr HOZ.out
  exact bodyPost_ret (v := .agg #[.pointer p, .pointer pa]) (by simp [results, Tryz.results194, go_sem, q0, q1]) rfl ⟨⟨_, rfl, HR.out.kp (Kp.outof HO.out)⟩, Only.belowX (HE.out.tr HX.out) HO.out (Nat.le_refl _)⟩
end Go.Proofs.YtkdglplfcpindaaGreatDoor

namespace Go.Proofs.YtkdglplfcpindaaGreatDoor
open Go.RowKit
def RTk (P : Pg) (w0 w : World) (bad : Nat -> Prop) (mb : Nat) : Tk -> Value -> Prop
  | .ev t e k, v => ∃ va vc pv pl kv, v = .iface 161 (.agg (evV t va vc pv pl kv)) /\ RTx w0 t va vc /\ D5 P w0 w bad mb (.vs pv e.vs) /\ D5 P w0 w bad mb (.ls pl e.ls) /\ D5 P w0 w bad mb (.k kv k)
  | .pass x k, v => ∃ a kv, v = .iface 290 (.agg #[a, kv]) /\ D5 P w0 w bad mb (.v a x) /\ D5 P w0 w bad mb (.k kv k)
theorem RTx.form {w0 : World} {t : Tm} {va vc : Value} (h : RTx w0 t va vc) : (∃ A c, va = .slice A t.args.length c /\ t.args.length <= c /\ c <= maxLen) /\ (∃ B c, vc = .slice B t.cls.length c /\ t.cls.length <= c /\ c <= maxLen) := by
  obtain ⟨k, h⟩ := h
  cases k with
  | zero => exact h.elim
  | succ k =>
    obtain ⟨-, ⟨A, c, e1, h1, h2, -⟩, ⟨B, d, e2, h3, h4, -⟩⟩ := h
    exact ⟨⟨A, c, e1, h1, h2⟩, ⟨B, d, e2, h3, h4⟩⟩
theorem RTx.arg {w0 w : World} (hx : Ext w0 w) {t : Tm} {A : Option Addr} {n c : Nat} {vc : Value} (h : RTx w0 t (.slice A n c) vc) {i : Nat} (hi : i < t.args.length) : ∃ b o xa xc, A = some ⟨b, o, none⟩ /\ C6 w b (o + i * 6) (t.args.getD i noTm) xa xc /\ RTx w0 (t.args.getD i noTm) xa xc := by
  obtain ⟨k, h⟩ := h
  cases k with
  | zero => exact h.elim
  | succ k =>
    obtain ⟨-, ⟨A', c', e1, -, -, h3⟩, -⟩ := h
    simp only [Value.slice.injEq] at e1
    obtain ⟨rfl, -, -⟩ := e1
    obtain ⟨b, o, xa, xc, e, -, h4, h5⟩ := h3 i t.args[i] (List.getElem?_eq_getElem hi)
    have : t.args.getD i noTm = t.args[i] := by rw [List.getD_eq_getElem?_getD, List.getElem?_eq_getElem hi]; rfl
    rw [this]
    exact ⟨b, o, xa, xc, e, h4.below hx, k, h5⟩
theorem c59 {w : World} {b T : Nat} {a0 a1 a2 a3 a4 a5 a6 a7 a8 : Value} (h : w.heap[b]? = some (.cells #[a0, a1, a2, a3, a4, a5, a6, a7, a8] T (0, 0))) :
    w.cell? ⟨b, 0, none⟩ = some a0 /\ w.cell? ⟨b, 1, none⟩ = some a1 /\ w.cell? ⟨b, 2, none⟩ = some a2 /\ w.cell? ⟨b, 3, none⟩ = some a3 /\ w.cell? ⟨b, 4, none⟩ = some a4 /\ w.cell? ⟨b, 5, none⟩ = some a5 /\ w.cell? ⟨b, 6, none⟩ = some a6 /\ w.cell? ⟨b, 7, none⟩ = some a7 /\ w.cell? ⟨b, 8, none⟩ = some a8 :=
  ⟨cA h 0, cA h 1, cA h 2, cA h 3, cA h 4, cA h 5, cA h 6, cA h 7, cA h 8⟩
theorem Ext.drewNx {w w' : World} (h : Ext w w') (n : Nat) : Ext w (w'.drewN n) := ⟨h.os, h.tape, h.output, h.size, h.block⟩
set_option maxHeartbeats 1000000 in
theorem earg_any (P : Pg) (w0 w : World) (bad : Nat -> Prop) (mb : Nat) (t : Tm) (en : En) (k k0 : Kt) (va vc pv pl kv kv0 : Value) (i : Nat) (hx : Ext w0 w) (ht : RTx w0 t va vc) (h2 : D5 P w0 w bad mb (.vs pv en.vs)) (h3 : D5 P w0 w bad mb (.ls pl en.ls)) (h40 : D5 P w0 w bad mb (.k kv0 k0)) (h4 : D5 P w0 w bad mb (.k kv k)) (hi : i < t.args.length) :
    Calls Tryz.prog 197 #[.agg (evV t va vc pv pl kv0), .int .i64 i, kv] w fun e w' => (∃ v, e = .returned v /\ RTk P w0 w' bad mb (.ev (t.args.getD i noTm) en k) v) /\ Ext w w' := by
  have H2 := LH h2
  have H3 := LH h3
  have H4 := LH h4
  obtain ⟨pv, rfl⟩ := h2.vs_form
  obtain ⟨pl, rfl⟩ := h3.ls_form
  obtain ⟨tk, uk, rfl⟩ := h4.k_form
  obtain ⟨tk0, uk0, rfl⟩ := h40.k_form
  obtain ⟨⟨Aa, ca, rfl, hla, hma⟩, ⟨Ab, cb, rfl, -, -⟩⟩ := ht.form
  obtain ⟨b, o, xa, xc, rfl, h6, h7⟩ := ht.arg hx hi
  obtain ⟨⟨Ax, cx, rfl, -, -⟩, ⟨Ay, cy, rfl, -, -⟩⟩ := h7.form
  have H7 := LH h7
  clear h2 h3 h4 h40 h7 ht
  unfold maxLen at hma
  generalize t.args.getD i noTm = x at *
  have HN := hNw w (.cells (evV t (.slice (some ⟨b, o, none⟩) t.args.length ca) (.slice Ab t.cls.length cb) (.pointer pv) (.pointer pl) (.iface tk0 uk0)) 161)
  have HE := LH (Ext.al w (.cells (evV t (.slice (some ⟨b, o, none⟩) t.args.length ca) (.slice Ab t.cls.length cb) (.pointer pv) (.pointer pl) (.iface tk0 uk0)) 161))
  obtain ⟨y0, y1, y2, y3, y4, y5⟩ := h6.below HE.out
  obtain ⟨c0, c1, c2, c3, c4, c5, c6, c7, c8⟩ := c59 HN
  clear HN h6
  have hlt : (i : Int) < t.args.length := by omega
  generalize hal : t.args.length = la at *
  clear hal
  go_enter Tryz.func197, Tryz.ntmps197
  go_wp2
  generalize w.alloc _ = w1 at *
  go_quiet (fail)
  go_wp2
  go_ret
  exact ⟨⟨_, rfl, _, _, _, _, _, rfl, H7.out, (H2.out.ext HE.out).ext (Ext.drewNx (Ext.rf _) _), (H3.out.ext HE.out).ext (Ext.drewNx (Ext.rf _) _), (H4.out.ext HE.out).ext (Ext.drewNx (Ext.rf _) _)⟩, HE.out.drewNx _⟩
end Go.Proofs.YtkdglplfcpindaaGreatDoor

namespace Go.Proofs.YtkdglplfcpindaaGreatDoor
open Go.RowKit
set_option maxHeartbeats 1000000 in
theorem fheld_any (P : Pg) (w0 w : World) (bad : Nat -> Prop) (mb : Nat) (x : Vl) (k : Kt) (a kv : Value) (h : D5 P w0 w bad mb (.v a x)) (h4 : D5 P w0 w bad mb (.k kv k)) :
    Calls Tryz.prog 188 #[.agg #[a], kv] w fun e w' => (∃ v, e = .returned v /\ RTk P w0 w' bad mb (.pass x k) v) /\ Ext w w' := by
  have H := LH h
  have H4 := LH h4
  obtain ⟨ta, ua, rfl⟩ := h.v_form
  obtain ⟨tk, uk, rfl⟩ := h4.k_form
  clear h h4
  have HE := LH (Ext.al w (.cells #[.iface ta ua] 96))
  have c0 := cA (hNw w (.cells #[.iface ta ua] 96)) 0
  go_enter Tryz.func188, Tryz.ntmps188
  go_wp2
  go_ret
  exact ⟨⟨_, rfl, _, _, rfl, H.out.ext HE.out, H4.out.ext HE.out⟩, HE.out⟩
theorem cells5_8 {w : World} {b T : Nat} {a0 a1 a2 a3 a4 a5 a6 a7 : Value} (h : w.heap[b]? = some (.cells #[a0, a1, a2, a3, a4, a5, a6, a7] T (0, 0))) :
    w.cell? ⟨b, 0, none⟩ = some a0 /\ w.cell? ⟨b, 1, none⟩ = some a1 /\ w.cell? ⟨b, 2, none⟩ = some a2 /\ w.cell? ⟨b, 3, none⟩ = some a3 /\ w.cell? ⟨b, 4, none⟩ = some a4 /\ w.cell? ⟨b, 5, none⟩ = some a5 /\ w.cell? ⟨b, 6, none⟩ = some a6 /\ w.cell? ⟨b, 7, none⟩ = some a7 :=
  ⟨cA h 0, cA h 1, cA h 2, cA h 3, cA h 4, cA h 5, cA h 6, cA h 7⟩
set_option maxHeartbeats 1000000 in
theorem fthunk_any (P : Pg) (w0 w : World) (bad : Nat -> Prop) (mb : Nat) (t : Tm) (en : En) (k : Kt) (va vc pv pl kv : Value) (ht : RTx w0 t va vc) (h2 : D5 P w0 w bad mb (.vs pv en.vs)) (h3 : D5 P w0 w bad mb (.ls pl en.ls)) (h4 : D5 P w0 w bad mb (.k kv k)) :
    Calls Tryz.prog 220 #[.agg (clV t va vc pv pl), kv] w fun e w' => (∃ v, e = .returned v /\ RTk P w0 w' bad mb (.ev t en k) v) /\ Ext w w' := by
  have HT := LH ht
  have H2 := LH h2
  have H3 := LH h3
  have H4 := LH h4
  obtain ⟨pv, rfl⟩ := h2.vs_form
  obtain ⟨pl, rfl⟩ := h3.ls_form
  obtain ⟨tk, uk, rfl⟩ := h4.k_form
  obtain ⟨⟨Aa, ca, rfl, -, -⟩, ⟨Ab, cb, rfl, -, -⟩⟩ := ht.form
  clear h2 h3 h4 ht
  have HE := LH (Ext.al w (.cells (clV t (.slice Aa t.args.length ca) (.slice Ab t.cls.length cb) (.pointer pv) (.pointer pl)) 309))
  obtain ⟨c0, c1, c2, c3, c4, c5, c6, c7⟩ := cells5_8 (hNw w (.cells (clV t (.slice Aa t.args.length ca) (.slice Ab t.cls.length cb) (.pointer pv) (.pointer pl)) 309))
  go_enter Tryz.func220, Tryz.ntmps220
  go_wp2
  go_ret
  exact ⟨⟨_, rfl, _, _, _, _, _, rfl, HT.out, H2.out.ext HE.out, H3.out.ext HE.out, H4.out.ext HE.out⟩, HE.out⟩
def MB (w : World) (mb : Nat) (vd vf lz ov : Value) (fuel en vl st : Int) : Prop :=
  w.heap[mb]? = some (.cells #[vd, vf, lz, .int .i64 fuel, .int .i64 en, .int .i64 vl, ov, .int .i64 st] 88 (0, 0))
theorem set8_end {w : World} {r T : Nat} {a0 a1 a2 a3 a4 a5 a6 a7 : Value} (h : w.heap[r]? = some (.cells #[a0, a1, a2, a3, a4, a5, a6, a7] T (0, 0))) (v : Value) : (w.setCell ⟨r, 4, none⟩ v).heap[r]? = some (.cells #[a0, a1, a2, a3, v, a5, a6, a7] T (0, 0)) := by
  simp [World.setCell, Array.getElem?_modify, h]
theorem set8_val {w : World} {r T : Nat} {a0 a1 a2 a3 a4 a5 a6 a7 : Value} (h : w.heap[r]? = some (.cells #[a0, a1, a2, a3, a4, a5, a6, a7] T (0, 0))) (v : Value) : (w.setCell ⟨r, 5, none⟩ v).heap[r]? = some (.cells #[a0, a1, a2, a3, a4, v, a6, a7] T (0, 0)) := by
  simp [World.setCell, Array.getElem?_modify, h]
theorem set8_outs {w : World} {r T : Nat} {a0 a1 a2 a3 a4 a5 a6 a7 : Value} (h : w.heap[r]? = some (.cells #[a0, a1, a2, a3, a4, a5, a6, a7] T (0, 0))) (v : Value) : (w.setCell ⟨r, 6, none⟩ v).heap[r]? = some (.cells #[a0, a1, a2, a3, a4, a5, v, a7] T (0, 0)) := by
  simp [World.setCell, Array.getElem?_modify, h]
theorem set8_steps {w : World} {r T : Nat} {a0 a1 a2 a3 a4 a5 a6 a7 : Value} (h : w.heap[r]? = some (.cells #[a0, a1, a2, a3, a4, a5, a6, a7] T (0, 0))) (v : Value) : (w.setCell ⟨r, 7, none⟩ v).heap[r]? = some (.cells #[a0, a1, a2, a3, a4, a5, a6, v] T (0, 0)) := by
  simp [World.setCell, Array.getElem?_modify, h]
theorem o5s (w : World) (r i : Nat) (v : Value) : Only (fun j => j = r) w (w.setCell ⟨r, i, none⟩ v) := Only.setCell (C := fun j => j = r) (p := ⟨r, i, none⟩) rfl w v
set_option maxHeartbeats 1000000 in
theorem mend_any (w : World) (mb : Nat) (vd vf lz ov : Value) (fuel en vl st how : Int) (h : MB w mb vd vf lz ov fuel en vl st) :
    Calls Tryz.prog 186 #[.pointer (some ⟨mb, 0, none⟩), .int .i64 how] w fun e w' => (e = .returned .nilIface /\ MB w' mb vd vf lz ov fuel how vl st) /\ Only (fun j => j = mb) w w' := by
  have HM := LH h
  have HS := LH (set8_end h (.int .i64 how))
  have HO := LH (o5s w mb 4 (.int .i64 how))
  have f4 := fA h 4
  have c4 := cA h 4
  clear h
  go_enter Tryz.func186, Tryz.ntmps186
  go_wp2
  go_ret
  exact ⟨⟨rfl, HS.out⟩, HO.out⟩
end Go.Proofs.YtkdglplfcpindaaGreatDoor

namespace Go.Proofs.YtkdglplfcpindaaGreatDoor
open Go.RowKit
theorem w64 (e : Int) : wrap64 e = wr64 e := by unfold wrap64 wr64; rfl
theorem primR_0 (a b : Int) : primR 0 a b = wrap64 (a + b) := by rw [w64]; rfl
theorem primR_1 (a b : Int) : primR 1 a b = wrap64 (a - b) := by rw [w64]; rfl
theorem primR_2 (a b : Int) : primR 2 a b = wrap64 (a * b) := by rw [w64]; rfl
theorem primR_3 (a b : Int) : primR 3 a b = quotP a b := rfl
theorem primR_4 (a b : Int) : primR 4 a b = wrap64 (a - wrap64 (b * quotP a b)) := by rw [w64, w64]; rfl
set_option maxHeartbeats 1000000 in
theorem truth_any (b : Bool) (w : World) : Calls Tryz.prog 224 #[.bool b] w fun e w' => e = .returned (.int .i64 (if b then 1 else 0)) /\ w = w' := by
  cases b
  all_goals
    go_enter Tryz.func224, Tryz.ntmps224
    go_wp2
    go_ret
    exact ⟨rfl, rfl⟩
set_option maxHeartbeats 1000000 in
theorem quot_any (a b : Int) (w : World) : Calls Tryz.prog 223 #[.int .i64 a, .int .i64 b] w fun e w' => e = .returned (.int .i64 (quotP a b)) /\ w = w' := by
  by_cases hb : b = 0
  . subst hb
    go_enter Tryz.func223, Tryz.ntmps223
    go_wp2
    go_ret
    exact ⟨rfl, rfl⟩
  . have hq : (b == 0) = false := by simpa using hb
    have hq2 : quotP a b = wr64 (a.tdiv b) := by unfold quotP; rw [if_neg hb]
    have HQ := LH hq2
    clear hq2
    go_enter Tryz.func223, Tryz.ntmps223
    go_wp2
    go_ret
    exact ⟨by rw [HQ.out, ← w64]; rfl, rfl⟩
set_option maxHeartbeats 1000000 in
theorem prim_any (n a b : Int) (w : World) (hn : 0 <= n /\ n <= 6) : Calls Tryz.prog 222 #[.int .i64 n, .int .i64 a, .int .i64 b] w fun e w' => e = .returned (.int .i64 (primR n a b)) /\ w = w' := by
  have : n = 0 ∨ n = 1 ∨ n = 2 ∨ n = 3 ∨ n = 4 ∨ n = 5 ∨ n = 6 := by omega
  rcases this with rfl | rfl | rfl | rfl | rfl | rfl | rfl
  case inr.inr.inr.inr.inr.inl =>
    have HP : Hid (primR 5 a b = if a = b then 1 else 0) := rfl
    generalize primR 5 a b = r at *
    by_cases hab : a = b
    . have hq : (a == b) = true := by simpa using hab
      clear hab
      go_enter Tryz.func222, Tryz.ntmps222
      go_wp2_with (go_at_call 224; (with_reducible refine (truth_any _ _).mono ?_); rintro e w' ⟨rfl, rfl⟩)
      go_ret
      exact ⟨by rw [HP.out, if_pos (by simpa using hq)]; rfl, rfl⟩
    . have hq : (a == b) = false := by simpa using hab
      clear hab
      go_enter Tryz.func222, Tryz.ntmps222
      go_wp2_with (go_at_call 224; (with_reducible refine (truth_any _ _).mono ?_); rintro e w' ⟨rfl, rfl⟩)
      go_ret
      exact ⟨by rw [HP.out, if_neg (by simpa using hq)]; rfl, rfl⟩
  case inr.inr.inr.inr.inr.inr =>
    have HP : Hid (primR 6 a b = if a < b then 1 else 0) := rfl
    generalize primR 6 a b = r at *
    by_cases hab : a < b
    . have HAB := LH hab
      go_enter Tryz.func222, Tryz.ntmps222
      go_wp2_with (go_at_call 224; (with_reducible refine (truth_any _ _).mono ?_); rintro e w' ⟨rfl, rfl⟩)
      go_ret
      exact ⟨by rw [HP.out, if_pos HAB.out]; rfl, rfl⟩
    . have HAB : Hid (¬ a < b) := hab
      have hab2 : b <= a := by omega
      clear hab
      go_enter Tryz.func222, Tryz.ntmps222
      go_wp2_with (go_at_call 224; (with_reducible refine (truth_any _ _).mono ?_); rintro e w' ⟨rfl, rfl⟩)
      go_ret
      exact ⟨by rw [HP.out, if_neg (by have := HAB.out; omega)]; rfl, rfl⟩
  all_goals
    go_enter Tryz.func222, Tryz.ntmps222
    go_wp2_with (go_at_call 223; (with_reducible refine (quot_any _ _ _).mono ?_); rintro e w' ⟨rfl, rfl⟩)
    go_ret
    exact ⟨by first | (rw [primR_0]; rfl) | (rw [primR_1]; rfl) | (rw [primR_2]; rfl) | (rw [primR_3]; rfl) | (rw [primR_4]; rfl), rfl⟩
end Go.Proofs.YtkdglplfcpindaaGreatDoor

namespace Go.Proofs.YtkdglplfcpindaaGreatDoor
open Go.RowKit
def RInts (w : World) (v : Value) (l : List Int) : Prop :=
  ∃ A c, v = .slice A l.length c /\ l.length <= c /\ c <= maxLen ∧
    ∀ i a, l[i]? = some a -> ∃ b o, A = some ⟨b, o, none⟩ /\ b < w.heap.size /\ w.cell? ⟨b, o + i, none⟩ = some (.int .i64 a)
theorem RInts.below {w w' : World} {v : Value} {l : List Int} (h : RInts w v l) (hb : Ext w w') : RInts w' v l := by
  obtain ⟨A, c, rfl, h1, h2, h3⟩ := h
  refine ⟨A, c, rfl, h1, h2, fun i a hi => ?_⟩
  obtain ⟨b, o, rfl, hlt, h4⟩ := h3 i a hi
  exact ⟨b, o, rfl, Nat.lt_of_lt_of_le hlt hb.size, hb.keep h4⟩
theorem RInts.form {w : World} {v : Value} {l : List Int} (h : RInts w v l) : ∃ A c, v = .slice A l.length c /\ l.length <= c /\ c <= maxLen := by
  obtain ⟨A, c, h1, h2, h3, _⟩ := h; exact ⟨A, c, h1, h2, h3⟩
theorem RInts.at_ {w : World} {l : List Int} {A : Option Addr} {c : Nat} (h : RInts w (.slice A l.length c) l) {k : Nat} (hk : k < l.length) :
    ∃ b o, A = some ⟨b, o, none⟩ /\ b < w.heap.size /\ w.cell? ⟨b, o + k, none⟩ = some (.int .i64 l[k]) := by
  obtain ⟨A', c', he, h1, h2, h3⟩ := h
  cases he
  exact h3 k _ (List.getElem?_eq_getElem hk)
theorem own_ints {w : World} {B : Nat} {v : Value} {l : List Int} (h : w.ownsRow B 3 1 v l.length (l.map (Value.int .i64))) : RInts w v l := by
  rcases h.2 with ⟨rfl, h0⟩ | ⟨g, cap, cur, rfl, e2, e3, e4, e5, e6, e7⟩
  . have hL : l = [] := List.eq_nil_of_length_eq_zero h0
    subst hL
    exact ⟨none, 0, rfl, Nat.le_refl _, Nat.zero_le _, fun i x hx => by simp at hx⟩
  . refine ⟨_, cap, rfl, e4, e5, fun i x hx => ?_⟩
    have hi : i < l.length := (List.getElem?_eq_some_iff.1 hx).1
    refine ⟨g, 0, rfl, (Array.getElem?_eq_some_iff.1 e3).1, ?_⟩
    rw [Nat.zero_add, World.ownsRow.cellAt h i (by omega), List.getElem?_map, hx]; rfl
end Go.Proofs.YtkdglplfcpindaaGreatDoor
