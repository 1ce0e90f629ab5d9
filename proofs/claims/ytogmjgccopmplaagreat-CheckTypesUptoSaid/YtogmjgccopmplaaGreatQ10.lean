/- The keys of a map in increasing order. -/
import Derived.Test.YtogmjgccopmplaaGreatQ9
import Derived.OwnWalk
import Derived.Maps.AppendAt
import Derived.Orders
import Derived.RegionTactic
namespace Go.Proofs.YtogmjgccopmplaaGreat
open Go.RowKit Go.Maps Go.WideMaps Go.Shelf Go.Sort
def SortedS (l : List Str) : Prop := l.Pairwise fun a b => a.data.toList < b.data.toList
def SortedI (l : List Int) : Prop := l.Pairwise fun a b => a < b
def toStr (bs : List UInt8) : Str := ⟨bs.toArray⟩
theorem toStr_data (bs : List UInt8) : (toStr bs).data.toList = bs := by simp [toStr]
theorem data_toStr (s : Str) : toStr s.data.toList = s := Go.WideShapes.bytes_inj (toStr_data _)
theorem strictly {l : List (List UInt8)} (h : l.Pairwise (fun x y => x ≤ y)) (hn : l.Nodup) : l.Pairwise (fun x y => x < y) := by
  have := h.and hn
  refine this.imp fun {a b} hab => ?_
  rcases List.le_iff_lt_or_eq.1 hab.1 with h | h
  · exact h
  · exact absurd h hab.2
theorem strKeys_facts {D : DataW Unit} {w : World} {b n : Nat} {R : Value → Option (DataW Unit × List MemPlace)} {f : Str → Bool} (h : w.ownsMap Tryz.prog 9 R b n D) (hf : ∀ k, has D (kS k) = f k) :
    (strKeys D).Nodup ∧ (∀ k : Str, k.data.toList ∈ strKeys D ↔ f k = true) ∧ ∀ bs ∈ strKeys D, bs.length ≤ maxLen := by
  obtain ⟨es, rfl, h1, h2⟩ := h.canonK (string_keyed Tryz.underlying9)
  have h3 : ∀ p ∈ es, ∃ s : Str, p.1 = kS s ∧ s.size ≤ maxLen := fun p hp => by
    obtain ⟨v, hv⟩ := h2 p hp
    obtain ⟨s, _, e, hs⟩ := string_of_keyOf Tryz.underlying9 hv
    exact ⟨s, e, hs⟩
  have hap := apart_of_rising h1
  refine ⟨?_, fun k => ?_, ?_⟩
  · show (es.map fun p => strOf p.1).Nodup
    unfold List.Nodup
    rw [List.pairwise_map]
    refine hap.imp_of_mem fun {p q} hp hq hne => ?_
    obtain ⟨s, hs, _⟩ := h3 p hp
    obtain ⟨t, ht, _⟩ := h3 q hq
    rw [hs, ht] at hne ⊢
    intro e
    exact hne (by show Lit.string _ = Lit.string _; rw [show s.data.toList = t.data.toList from e])
  · rw [← hf k, has_eq, List.any_eq_true]
    show k.data.toList ∈ (es.map fun p => strOf p.1) ↔ _
    rw [List.mem_map]
    constructor
    · rintro ⟨p, hp, he⟩
      obtain ⟨s, hs, _⟩ := h3 p hp
      rw [hs] at he
      refine ⟨p, hp, ?_⟩
      rw [hs, show s = k from Go.WideShapes.bytes_inj he]
      exact WideAt.sameKey_self (key_lit k)
    · rintro ⟨p, hp, he⟩
      refine ⟨p, hp, ?_⟩
      by_cases hk : p.1 = kS k
      · rw [hk]; rfl
      · rw [sameKey_ne hk] at he; cases he
  · intro bs hbs
    obtain ⟨p, hp, rfl⟩ := List.mem_map.1 hbs
    obtain ⟨s, hs, hl⟩ := h3 p hp
    rw [hs]
    show s.data.toList.length ≤ _
    simpa using hl
theorem KeysS_any (mb : Option Nat) (W : World) : Calls Tryz.prog 114 #[.map mb] W fun e w' => e = .returned (.func (.func 141) #[] #[.pointer (some ⟨W.heap.size, 0, none⟩)]) ∧ w' = W.alloc (.cells #[.map mb] 123) :=
  callsIn_wide.1 (AnyZ.keys_in Tryz.keys82 Fence.wide 5 trivial rfl mb W)
theorem sortsS (m : Nat) : AnyZ.SortsIn Tryz.prog Tryz.sorted81_ren Fence.wide m :=
  ⟨fun blk off cap ss W hH hblk hsz => callsIn_wide.2 (AnyM.slices_Sort_string Tryz.sort109 blk off cap ss W hH hblk hsz),
   fun p cap W => callsIn_wide.2 (AnyM.slices_Sort_string_none Tryz.sort109 p cap W)⟩
theorem SortedS_any (b n : Nat) (f : Str → Bool) (w : World) (h : SetO Tryz.prog w b n f) (hn : n ≤ 1000000000) :
    Calls Tryz.prog 113 #[.func (.func 141) #[] #[.pointer (some ⟨w.heap.size, 0, none⟩)]] (w.alloc (.cells #[.map (some b)] 123)) fun e w' => ∃ (v : Value) (l : List Str), e = .returned v ∧ (∀ k, k ∈ l ↔ f k = true) ∧ SortedS l ∧ (∀ k ∈ l, k.size ≤ maxLen) ∧
      w'.ownsRow (w.heap.size + 1) 9 1 v l.length (l.map Value.string) ∧ Ext w w' := by
  obtain ⟨D0, hown, hf, _⟩ := h
  obtain ⟨q1, q2, q3⟩ := strKeys_facts hown hf
  have hbl := hown.lt
  have hsz := size_own hown
  have hseq : SeqGives Fence.wide 2 Tryz.prog 141 #[.pointer (some ⟨w.heap.size, 0, none⟩)] encStr (fun ss => ss.Perm (strKeys D0)) (Maps.size D0) (w.alloc (.cells #[.map (some b)] 123)) :=
    AnyZ.keys_gives (ρ := Tryz.keys82_ren) { Tryz.keys82 with } Fence.wide _ trivial rfl (by omega) w.heap.size b n D0 _ (by simp) (by simp) (by
      obtain ⟨es, clock, hb, Ft, hs, hD⟩ := hown
      exact ⟨es, clock, (Below.heap_alloc _ _ b hbl).trans hb, Ft, hs, hD⟩)
  have cS := AnyZ.sorted_in Tryz.sorted81 Fence.wide 5 trivial trivial trivial trivial rfl (by omega) (sortsS _) (enters_of Tryz.func140 (by kernel_rfl) rfl) 141 #[.pointer (some ⟨w.heap.size, 0, none⟩)] trivial (enters_of Tryz.func141 (by kernel_rfl) rfl) _ _ (by unfold maxLen; omega) (by omega) _ hseq
  refine (callsIn_wide.1 cS).mono ?_
  rintro e w' ⟨v, ss, rfl, hS, hrow, hnil, hb⟩
  have hp : (ss.mergeSort (fun x y => decide (x ≤ y))).Perm (strKeys D0) := (List.mergeSort_perm _ _).trans hS
  have hsort : (ss.mergeSort (fun x y => decide (x ≤ y))).Pairwise (fun x y => x ≤ y) := by
    have := List.pairwise_mergeSort (le := fun (x y : List UInt8) => decide (x ≤ y)) (fun a b c h1 h2 => by simp only [decide_eq_true_eq] at *; exact List.le_trans h1 h2) (fun a b => by simp only [Bool.or_eq_true, decide_eq_true_eq]; exact List.le_total a b) ss
    exact this.imp fun h => by simpa using h
  have hlen : ss.length = (ss.mergeSort (fun x y => decide (x ≤ y))).length := (List.length_mergeSort _).symm
  refine ⟨v, (ss.mergeSort (fun x y => decide (x ≤ y))).map toStr, rfl, fun k => ?_, ?_, fun k hk => ?_, ?_, ?_⟩
  · rw [← q2 k, ← hp.mem_iff, List.mem_map]
    exact ⟨fun ⟨bs, h1, h2⟩ => by rw [← h2, toStr_data]; exact h1, fun h => ⟨_, h, data_toStr k⟩⟩
  · unfold SortedS
    rw [List.pairwise_map]
    exact (strictly hsort ((hp.nodup_iff).2 q1)).imp fun h => by rw [toStr_data, toStr_data]; exact h
  · obtain ⟨bs, h1, rfl⟩ := List.mem_map.1 hk
    have := q3 bs (hp.mem_iff.1 h1)
    show (toStr bs).data.size ≤ _
    rw [← Array.length_toList, toStr_data]; exact this
  · rw [List.map_map, List.length_map, ← hlen]
    rw [World.size_alloc] at hrow
    exact hrow
  · exact (Ext.al w _).tr hb
set_option maxHeartbeats 1000000 in
set_option maxRecDepth 100000 in
theorem sorted_any (vb : Value) (b n : Nat) (f : Str → Bool) (w : World) (h : SetO Tryz.prog w b n f) (hn : n ≤ 1000000000) :
    Calls Tryz.prog 81 #[.agg #[vb, .map (some b)]] w fun e w' => ∃ (v : Value) (l : List Str), e = .returned v ∧ (∀ k, k ∈ l ↔ f k = true) ∧ SortedS l ∧ (∀ k ∈ l, k.size ≤ maxLen) ∧
      w'.ownsRow w.heap.size 9 1 v l.length (l.map Value.string) ∧ Ext w w' := by
  have HS := Lib.hid (h.ext (Ext.al w (.cells #[vb, .map (some b)] 130)))
  have HE := Lib.hid (Ext.al w (.cells #[vb, .map (some b)] 130))
  clear h
  go_enter Tryz.func81, Tryz.ntmps81
  go_wp2_with fail
  generalize w.alloc _ = w1 at *
  (with_reducible refine (KeysS_any _ _).mono ?_)
  rintro e w2 ⟨rfl, rfl⟩
  go_wp2_with fail
  (with_reducible refine (SortedS_any b n f w1 HS.out hn).mono ?_)
  rintro e w3 ⟨v, l, rfl, h1, h2, h3, h4, h5⟩
  have H1 := Lib.hid h1; have H2 := Lib.hid h2; have H3 := Lib.hid h3; have H4 := Lib.hid h4; have H5 := Lib.hid h5
  clear h1 h2 h3 h4 h5
  go_wp2
  go_ret
  exact ⟨v, l, rfl, H1.out, H2.out, H3.out, ownsRow_base_a H4.out (by have := HE.out.size; omega), HE.out.tr H5.out⟩
end Go.Proofs.YtogmjgccopmplaaGreat

/- term.go: Free. -/
namespace Go.Proofs.YtogmjgccopmplaaGreat
open Go.RowKit
theorem own_strs {w : World} {B : Nat} {v : Value} {l : List Str} (h : w.ownsRow B 9 1 v l.length (l.map Value.string)) (hs : ∀ s ∈ l, s.size ≤ maxLen) : RStrs w v l := by
  have hc := fun g (hg : v.ownBlock = some g) => World.ownsRow.cells h hg
  rcases h.2 with ⟨rfl, h0⟩ | ⟨g, cap, cur, rfl, hB, hg, hn, hm, -, -⟩
  · obtain rfl : l = [] := List.eq_nil_of_length_eq_zero h0
    exact RStrs.nil w
  · refine ⟨_, _, rfl, hn, hm, fun i a hi => ⟨g, 0, rfl, heap_lt hg, ?_, hs _ (List.mem_of_getElem? hi)⟩⟩
    have := hc g rfl i (.string a) (by rw [List.getElem?_map, hi]; rfl)
    rw [Nat.zero_add]
    have hadd : (⟨g, 0, none⟩ : Addr).add i = ⟨g, i, none⟩ := by unfold Addr.add; split <;> simp_all
    rwa [hadd] at this
theorem own_below {w w' : World} {B : Nat} {e : TypeId} {k : Nat} {v : Value} {n : Nat} {xs : List Value} (h : w.ownsRow B e k v n xs) (hb : Ext w w') : w'.ownsRow B e k v n xs :=
  h.kept (row := none) ⟨hb.os, hb.tape, hb.output, hb.size, fun j hj _ => hb.block j hj⟩ (by cases hv : v.ownBlock <;> simp)
theorem own_base {w : World} {B B' : Nat} {e : TypeId} {k : Nat} {v : Value} {n : Nat} {xs : List Value} (h : w.ownsRow B e k v n xs) (hb : B' ≤ B) : w.ownsRow B' e k v n xs :=
  ⟨h.1, h.2.elim Or.inl (fun ⟨g, cap, cur, hv, hg, r⟩ => Or.inr ⟨g, cap, cur, hv, Nat.le_trans hb hg, r⟩)⟩
/-- A list of free names that the call owns. -/
structure OwnS (w : World) (B : Nat) (v : Value) (l : List Str) (f : Str → Bool) : Prop where
  mem : ∀ k, k ∈ l ↔ f k = true
  sorted : SortedS l
  sizes : ∀ k ∈ l, k.size ≤ maxLen
  own : w.ownsRow B 9 1 v l.length (l.map Value.string)
theorem OwnS.ext {w w' : World} {B : Nat} {v : Value} {l : List Str} {f : Str → Bool} (h : OwnS w B v l f) (hb : Ext w w') : OwnS w' B v l f := ⟨h.mem, h.sorted, h.sizes, own_below h.own hb⟩
theorem OwnS.base {w : World} {B B' : Nat} {v : Value} {l : List Str} {f : Str → Bool} (h : OwnS w B v l f) (hb : B' ≤ B) : OwnS w B' v l f := ⟨h.mem, h.sorted, h.sizes, own_base h.own hb⟩
theorem OwnS.strs {w : World} {B : Nat} {v : Value} {l : List Str} {f : Str → Bool} (h : OwnS w B v l f) : RStrs w v l := own_strs h.own h.sizes
set_option maxHeartbeats 4000000 in
set_option maxRecDepth 100000 in
theorem Free_any (k : Nat) (t : Tm) (va vc : Value) (w : World) (ht : RT w k t va vc) (hu : uT t ≤ 1000000000) :
    Calls Tryz.prog 42 #[tV t va vc] w fun e w' => ∃ v1 v2 l1 l2, e = .returned (.tuple #[v1, v2]) ∧ OwnS w' w.heap.size v1 l1 (fvT t) ∧ OwnS w' w.heap.size v2 l2 (flT t) ∧ Ext w w' := by
  have HT := Lib.hid ht; have HU := Lib.hid hu
  obtain ⟨_, ⟨Aa, ca, rfl, -, -⟩, ⟨Bb, cb, rfl, -, -⟩⟩ := ht.form
  clear ht hu
  have HE := Lib.hid (Ext.al w (.cells #[.int .i64 t.op, .int .i64 t.n, .string t.nm, .int .i64 t.ty, .slice Aa t.args.length ca, .slice Bb t.cls.length cb] 41))
  have HB0 := Lib.hid (heapNew w (.cells #[.int .i64 t.op, .int .i64 t.n, .string t.nm, .int .i64 t.ty, .slice Aa t.args.length ca, .slice Bb t.cls.length cb] 41))
  have HZ1 : Hid ((w.alloc (.cells #[.int .i64 t.op, .int .i64 t.n, .string t.nm, .int .i64 t.ty, .slice Aa t.args.length ca, .slice Bb t.cls.length cb] 41)).heap.size = w.heap.size + 1) := World.size_alloc _ _
  go_enter Tryz.func42, Tryz.ntmps42
  go_wp2_with fail
  generalize w.alloc _ = w1 at *
  (with_reducible refine (newTally_any _).mono ?_)
  rintro e w2 ⟨rfl, ha2, hs2, hb2⟩
  have HA2 := Lib.hid ha2; have HS2 := Lib.hid hs2; have HX2 := Lib.hid hb2
  clear ha2 hs2 hb2
  go_wp2_with fail
  (with_reducible refine (newTally_any _).mono ?_)
  rintro e w3 ⟨rfl, ha3, hs3, hb3⟩
  have HA3 := Lib.hid ha3; have HS3 := Lib.hid hs3; have HX3 := Lib.hid hb3
  clear ha3 hs3 hb3
  have HE3 := Lib.hid ((HE.out.tr HX2.out).tr HX3.out)
  have HB3 := Lib.hid (((HX2.out.tr HX3.out).block _ (heap_lt HB0.out)).trans HB0.out)
  have hE4 := Ext.al w3 (.cells #[.map (some (w1.heap.size + 1)), .map (some (w1.heap.size + 2)), .map (some (w2.heap.size + 1)), .map (some (w2.heap.size + 2))] 133)
  have hn4 := heapNew w3 (.cells #[.map (some (w1.heap.size + 1)), .map (some (w1.heap.size + 2)), .map (some (w2.heap.size + 1)), .map (some (w2.heap.size + 2))] 133)
  have b4 := (hE4.block _ (heap_lt HB3.out)).trans HB3.out
  obtain ⟨x0, x1, x2, x3, x4, x5⟩ := cells6 b4
  have s0 := cellAt hn4 0
  have s1 := cellAt hn4 1
  have s2 := cellAt hn4 2
  have s3 := cellAt hn4 3
  have HE4 := Lib.hid hE4
  have HN4 := Lib.hid hn4
  clear hE4 hn4 b4
  go_wp2_with fail
  generalize w3.alloc _ = w4 at *
  have HAP : Hid (Apart w.heap.size (w1.heap.size + 1) (w1.heap.size + 2) (w2.heap.size + 1) (w2.heap.size + 2)) := by
    have := HZ1.out; have := HS2.out.lt
    exact ⟨by omega, by omega, by omega, by omega, by omega, by omega, by omega, by omega, by omega, by omega⟩
  have HTAL : Hid (Tal w4 (w1.heap.size + 1) (w1.heap.size + 2) (w2.heap.size + 1) (w2.heap.size + 2) 0 (fun _ => 0) (fun _ => false) (fun _ => 0) (fun _ => false)) :=
    Tal.ext ⟨HA2.out.ext HX3.out, HS2.out.ext HX3.out, HA3.out, HS3.out⟩ HE4.out
  have HW4 := Lib.hid (HE3.out.tr HE4.out)
  have HLT := Lib.hid HTAL.out.lt
  have HZ3 : Hid (w3.heap.size < w4.heap.size) := heap_lt HN4.out
  have HC3 : Hid (∀ j, C4 (w1.heap.size + 1) (w1.heap.size + 2) (w2.heap.size + 1) (w2.heap.size + 2) j → j < w3.heap.size) := (Tal.mk (n := 0) (c1 := fun _ => 0) (g1 := fun _ => false) (c2 := fun _ => 0) (g2 := fun _ => false) (HA2.out.ext HX3.out) (HS2.out.ext HX3.out) HA3.out HS3.out).lt
  (with_reducible refine (visit_any w _ _ _ _ HAP.out k t _ _ 0 _ _ _ _ w4 HT.out HW4.out HTAL.out (by have := HU.out; omega) (fun k => ⟨Int.le_refl _, by have := HU.out; show (0 : Int) + _ ≤ _; omega⟩) (fun k => ⟨Int.le_refl _, by have := HU.out; show (0 : Int) + _ ≤ _; omega⟩)).mono ?_)
  rintro e w5 ⟨rfl, ht5, ho5⟩
  have HT5 := Lib.hid ht5
  have HE5 : Hid (Ext w w5) := HW4.out.trans (ho5.below HW4.out.size HAP.out.ge)
  have hn5 := (ho5.block _ (heap_lt HN4.out) (fun h => by have := HC3.out _ h; omega)).trans HN4.out
  have HN5 := Lib.hid hn5
  clear ht5 ho5 s0 s1 s2 s3 x0 x1 x2 x3 x4 x5
  have s0 := cellAt hn5 0
  have s1 := cellAt hn5 1
  have s2 := cellAt hn5 2
  have s3 := cellAt hn5 3
  clear hn5
  have hmx : Tryz.prog.follows .mixedOrders = true := by kernel_rfl
  have HF1 : Hid ((fun k => false || (decide ((fun _ => (0 : Int)) k = 0) && fvT t k)) = fvT t) := by show _ = _; funext k; simp
  have HF2 : Hid ((fun k => false || (decide ((fun _ => (0 : Int)) k = 0) && flT t k)) = flT t) := by show _ = _; funext k; simp
  have h1 := HT5.out.s1
  have h2 := HT5.out.s2
  rw [HF1.out] at h1
  rw [HF2.out] at h2
  have H1 := Lib.hid h1; have H2 := Lib.hid h2
  clear h1 h2
  have HUN : Hid (0 + uT t ≤ 1000000000) := by show 0 + uT t ≤ 1000000000; have := HU.out; omega
  go_wp2
  go_region_with (first
    | (go_at_call 81; (with_reducible refine (sorted_any _ (w1.heap.size + 2) _ _ _ (H1.out.ext (Ext.rf _).drew) HUN.out).mono ?_); rintro e w6 ⟨v1, l1, rfl, m1, m2, m3, m4, hx6⟩; have HX6 : Hid (Ext w5 w6) := Ext.tr (b := w5.drew) (Ext.rf w5).drew hx6; have HR1 : Hid (OwnS w6 w5.heap.size v1 l1 (fvT t)) := ⟨m1, m2, m3, m4⟩; clear m1 m2 m3 m4 hx6 s0 s1 s2 s3; have s0 := HX6.out.keep (cellAt HN5.out 0); have s1 := HX6.out.keep (cellAt HN5.out 1); have s2 := HX6.out.keep (cellAt HN5.out 2); have s3 := HX6.out.keep (cellAt HN5.out 3))
    | (go_at_call 81; (with_reducible refine (sorted_any _ (w2.heap.size + 2) _ _ _ (H2.out.ext HX6.out) HUN.out).mono ?_); rintro e w7 ⟨v2, l2, rfl, m1, m2, m3, m4, hx7⟩; have HX7 : Hid (Ext w6 w7) := hx7; have HR2 : Hid (OwnS w7 w6.heap.size v2 l2 (flT t)) := ⟨m1, m2, m3, m4⟩; clear m1 m2 m3 m4 hx7 s0 s1 s2 s3))
  all_goals
    go_wp2
    go_ret2
    exact ⟨v1, v2, l1, l2, rfl, (HR1.out.ext HX7.out).base HE5.out.size, HR2.out.base (Nat.le_trans HE5.out.size HX6.out.size), (HE5.out.tr HX6.out).tr HX7.out⟩
end Go.Proofs.YtogmjgccopmplaaGreat

/- Validity depends only on the free names. -/
namespace Go.Proofs.YtogmjgccopmplaaGreat
theorem uK_mem {x : Bnd × Tm} : ∀ {l : List (Bnd × Tm)}, x ∈ l → 2 * x.1.1.length + uT x.2 ≤ uK l
  | [], h => by cases h
  | y :: r, h => by
    rw [uK]
    rcases List.mem_cons.1 h with rfl | h
    · omega
    · have := uK_mem h; omega
theorem uT_kid {t : Tm} {x : Bnd × Tm} (h : x ∈ kids t) : 2 * x.1.1.length + uT x.2 < uT t := by
  have := uK_mem h
  rw [uT_kids t]; omega
/-- What is free in a valid term is in scope. -/
theorem valid_free (P : Pg) : ∀ (n : Nat) (t : Tm) (V L : Scp), uT t ≤ n → validT P V L t = true → (∀ k, fvT t k = true → V k = true) ∧ (∀ k, flT t k = true → L k = true) := by
  intro n
  induction n with
  | zero => intro t V L hu; rw [uT_kids] at hu; omega
  | succ n ih =>
    intro t V L hu h
    rw [validT_kids] at h
    simp only [Bool.and_eq_true, List.all_eq_true] at h
    obtain ⟨⟨_, hr⟩, hk⟩ := h
    refine ⟨fun k hf => ?_, fun k hf => ?_⟩
    · rw [fvT_kids] at hf
      simp only [Bool.or_eq_true, Bool.and_eq_true, decide_eq_true_eq, List.any_eq_true] at hf
      rcases hf with ⟨h0, he⟩ | ⟨x, hx, hx2⟩
      · have e : k = t.nm := eqS_iff.1 he
        unfold refB at hr
        rw [if_pos h0] at hr
        rw [e]; exact hr
      · unfold fvK at hx2
        simp only [Bool.and_eq_true, Bool.not_eq_true'] at hx2
        have hv := hk x hx
        unfold validK at hv
        simp only [Bool.and_eq_true] at hv
        have h1 := (ih x.2 _ _ (by have := uT_kid hx; omega) hv.2).1 k hx2.2
        have h2 := hx2.1
        unfold addV at h1
        unfold vnames at h2
        split at h1
        · exact h1
        · rename_i hb
          rw [if_neg hb] at h2
          dsimp only at h1
          rw [h2, Bool.false_or] at h1
          exact h1
    · rw [flT_kids] at hf
      simp only [Bool.or_eq_true, Bool.and_eq_true, decide_eq_true_eq, List.any_eq_true] at hf
      rcases hf with ⟨h0, he⟩ | ⟨x, hx, hx2⟩
      · have e : k = t.nm := eqS_iff.1 he
        unfold refB at hr
        rw [if_neg (by omega), if_pos h0] at hr
        rw [e]; exact hr
      · unfold flK at hx2
        simp only [Bool.and_eq_true, Bool.not_eq_true'] at hx2
        have hv := hk x hx
        unfold validK at hv
        simp only [Bool.and_eq_true] at hv
        have h1 := (ih x.2 _ _ (by have := uT_kid hx; omega) hv.2).2 k hx2.2
        have h2 := hx2.1
        unfold addL at h1
        unfold lnames at h2
        split at h1
        · rename_i hb
          rw [if_pos hb] at h2
          dsimp only at h1
          rw [h2, Bool.false_or] at h1
          exact h1
        · exact h1
/-- A valid term stays valid where its free names are in scope. -/
theorem valid_scope (P : Pg) : ∀ (n : Nat) (t : Tm) (V L V' L' : Scp), uT t ≤ n → validT P V L t = true → (∀ k, fvT t k = true → V' k = true) → (∀ k, flT t k = true → L' k = true) → validT P V' L' t = true := by
  intro n
  induction n with
  | zero => intro t V L V' L' hu; rw [uT_kids] at hu; omega
  | succ n ih =>
    intro t V L V' L' hu h hV hL
    rw [validT_kids] at h ⊢
    simp only [Bool.and_eq_true, List.all_eq_true] at h ⊢
    obtain ⟨⟨hf, _⟩, hk⟩ := h
    refine ⟨⟨hf, ?_⟩, fun x hx => ?_⟩
    · unfold refB
      split
      · rename_i h0
        exact hV _ (by rw [fvT_kids]; simp [h0])
      · split
        · rename_i h0
          exact hL _ (by rw [flT_kids]; simp [h0])
        · rfl
    · have hv := hk x hx
      unfold validK at hv ⊢
      simp only [Bool.and_eq_true] at hv ⊢
      refine ⟨hv.1, ih x.2 _ _ _ _ (by have := uT_kid hx; omega) hv.2 (fun k hf => ?_) (fun k hf => ?_)⟩
      · unfold addV
        split
        · rename_i hb
          exact hV k (by rw [fvT_kids]; simp only [Bool.or_eq_true, List.any_eq_true]; exact .inr ⟨x, hx, by simp [fvK, vnames, hb, hf, hasS]⟩)
        · rename_i hb
          dsimp only
          cases hh : hasS x.1.1 k
          · rw [Bool.false_or]
            exact hV k (by rw [fvT_kids]; simp only [Bool.or_eq_true, List.any_eq_true]; exact .inr ⟨x, hx, by simp [fvK, vnames, hb, hf, hh]⟩)
          · rfl
      · unfold addL
        split
        · rename_i hb
          dsimp only
          cases hh : hasS x.1.1 k
          · rw [Bool.false_or]
            exact hL k (by rw [flT_kids]; simp only [Bool.or_eq_true, List.any_eq_true]; exact .inr ⟨x, hx, by simp [flK, lnames, hb, hf, hh]⟩)
          · rfl
        · rename_i hb
          exact hL k (by rw [flT_kids]; simp only [Bool.or_eq_true, List.any_eq_true]; exact .inr ⟨x, hx, by simp [flK, lnames, hb, hf, hasS]⟩)
theorem nodesK_mem {d : Int} {y : Int × Tm} : ∀ {l : List (Bnd × Tm)}, y ∈ nodesK d l → ∃ x ∈ l, y ∈ nodesL d x.2
  | [], h => by simp [nodesK] at h
  | x :: r, h => by
    rw [nodesK] at h
    rcases List.mem_append.1 h with h | h
    · exact ⟨x, List.mem_cons_self .., h⟩
    · obtain ⟨z, hz, h'⟩ := nodesK_mem h
      exact ⟨z, List.mem_cons_of_mem _ hz, h'⟩
theorem deep_le : ∀ (n : Nat) (t : Tm) (d : Int), uT t ≤ n → ∀ y ∈ nodesL d t, d ≤ y.1 ∧ y.1 < d + uT t := by
  intro n
  induction n with
  | zero => intro t d hu; rw [uT_kids] at hu; omega
  | succ n ih =>
    intro t d hu y hy
    rw [nodesL_kids] at hy
    rcases List.mem_cons.1 hy with rfl | hy
    · exact ⟨Int.le_refl _, by rw [uT_kids]; dsimp only; omega⟩
    · obtain ⟨x, hx, hy⟩ := nodesK_mem hy
      have h1 := uT_kid hx
      have := ih x.2 (d + 1) (by omega) y hy
      omega
theorem wK_le (n : Nat) (ih : ∀ t : Tm, uT t ≤ n → wT t ≤ uT t) : ∀ l : List (Bnd × Tm), uK l ≤ n → wK l ≤ uK l
  | [], _ => by simp [wK]
  | x :: r, h => by
    rw [uK] at h
    have h1 := ih x.2 (by omega)
    have h2 := wK_le n ih r (by omega)
    rw [wK, uK]; omega
theorem wT_le : ∀ (n : Nat) (t : Tm), uT t ≤ n → wT t ≤ uT t := by
  intro n
  induction n with
  | zero => intro t hu; rw [uT_kids] at hu; omega
  | succ n ih =>
    intro t hu
    rw [wT_kids, uT_kids] at *
    have := wK_le n ih (kids t) (by omega)
    omega
theorem fine_of {t : Tm} (h : uT t ≤ 50000000) : FineT t :=
  ⟨fun y hy => by have := deep_le _ t 1 (Nat.le_refl _) y hy; omega, by have := wT_le _ t (Nat.le_refl _); omega⟩
end Go.Proofs.YtogmjgccopmplaaGreat

/- append of strings to a row that the call owns. -/
namespace Go.Proofs.YtogmjgccopmplaaGreat
open Go.RowKit
theorem run_append_nil {w : World} {base : Nat} {t ty e : TypeId} {i : TypeInfo} {size c : Nat} (ht : Tryz.prog.underlying t = some (.slice e)) (hi : Tryz.prog.info? e = some i) {v : Value} {n : Nat} {xs : List Value} (hown : w.ownsRow base e size v n xs) :
    (Builtin.append_ #[t, t] ty #[v, .slice none 0 c]).run Tryz.prog w = .ok v w := by
  rcases hown.2 with ⟨rfl, rfl⟩ | ⟨g, cap, cur, rfl, _, _, hnc, _⟩
  · simp [Builtin.append_, run_underlying ht, sizeOf, typeInfo, hi, Builtin.lenOf, Builtin.firstCells]
  · simp [Builtin.append_, run_underlying ht, sizeOf, typeInfo, hi, Builtin.lenOf, Builtin.firstCells, hnc, storeCells]
def SrcN (w : World) (A : Option Addr) (m size : Nat) (news : List Value) : Prop :=
  (A = none ∧ m = 0 ∧ news = []) ∨ ∃ ad, A = some ad ∧ news.length = m * size ∧ ∀ (j : Nat) u, news[j]? = some u → w.cell? (ad.add j) = some u
theorem app_row {t e size bytes : Nat} {z : Value} (hu : Tryz.prog.underlying t = some (.slice e)) (hinf : (Tryz.prog.info? e).map (fun i => (i.zero, i.size, i.bytes)) = some (some z, size, bytes)) (hzs : z.cells.size = size) (hsz : 0 < size)
    {w : World} {o : Oper} {a : Act} {K : Act → World → Prop} {Q : Exit → Act → World → Prop} (s x : Operand)
    (ho : o.op = .call { callee := .builtin .append, args := #[s, x], argTypes := #[t, t] })
    (B : Nat) (v : Value) (n : Nat) (xs : List Value) (hs : a.eval s = v) (hown : w.ownsRow B e size v n xs)
    (A : Option Addr) (m c : Nat) (news : List Value) (hx : a.eval x = .slice A m c) (hsrc : SrcN w A m size news) (h1 : ∀ u ∈ news, u.oneCell' = true)
    (hnm : n + m ≤ maxLen) (hby : (n + m) * bytes ≤ 140737488355328) (hB : B ≤ w.heap.size)
    (h : ∀ v' w', w'.ownsRow B e size v' (n + m) (xs ++ news) → w.grownBy w' v.ownBlock → (v'.ownBlock = v.ownBlock ∨ v'.ownBlock = some w.heap.size) → K (a.put o.dst v') w') : o.wp Tryz.prog a w K Q := by
  obtain ⟨i0, hi1, hz0, hz1, hz2⟩ := info_parts hinf
  rcases hsrc with ⟨rfl, rfl, rfl⟩ | ⟨ad, rfl, hl, hc⟩
  · have hr := run_append_nil (c := c) (ty := o.type) hu hi1 hown
    have hk := h v w (by simpa using hown) (World.grownBy.refl w _) (.inl rfl)
    unfold Oper.wp execOp
    simp only [ho, resolve, invoke, builtin, Sem.run_bind, Sem.run_pure, Result.andThen_ok, List.map_toArray, List.map_cons, List.map_nil, hs, hx, hr]
    exact hk
  · obtain ⟨v', w', hr, h2, h3, _, h5⟩ := run_append_own_at (P := Tryz.prog) w B t o.type e i0 z size bytes hu hi1 hz0 hz1 hz2 hzs hsz v n xs hown ad m c news hl hc h1 hnm hby hB
    unfold Oper.wp execOp
    simp only [ho, resolve, invoke, builtin, Sem.run_bind, Sem.run_pure, Result.andThen_ok, List.map_toArray, List.map_cons, List.map_nil, hs, hx, hr]
    exact h v' w' h2 h3 h5
theorem add_at (b o k : Nat) : (⟨b, o, none⟩ : Addr).add k = ⟨b, o + k, none⟩ := by
  by_cases hk : k = 0 <;> simp [Addr.add, hk]
theorem RStrs.src {w : World} {A : Option Addr} {c : Nat} {l : List Str} (h : RStrs w (.slice A l.length c) l) : SrcN w A l.length 1 (l.map Value.string) := by
  cases A with
  | none =>
    cases l with
    | nil => exact .inl ⟨rfl, rfl, rfl⟩
    | cons a r =>
      obtain ⟨_, _, hA, _⟩ := h.at_ (k := 0) (by simp)
      cases hA
  | some ad =>
    refine .inr ⟨ad, rfl, by simp, fun j u hu => ?_⟩
    rw [List.getElem?_map] at hu
    obtain ⟨s, hs, rfl⟩ := Option.map_eq_some_iff.1 hu
    obtain ⟨hlt, rfl⟩ := List.getElem?_eq_some_iff.1 hs
    obtain ⟨b, o, hA, _, c0, _⟩ := h.at_ hlt
    cases hA
    rw [add_at]; exact c0
theorem strs_one (l : List Str) : ∀ u ∈ l.map Value.string, u.oneCell' = true := by
  intro u hu
  obtain ⟨s, _, rfl⟩ := List.mem_map.1 hu
  rfl
set_option maxRecDepth 100000 in
theorem app_strs {w : World} {ops : Array Oper} {rest : List Oper} {o : Oper} {a : Act} {Q : Exit → Act → World → Prop} (hgd : o.guard = none) (s x : Operand)
    (ho : o.op = .call { callee := .builtin .append, args := #[s, x], argTypes := #[48, 48] }) (B : Nat) (v : Value) (l1 : List Str) (hs : a.eval s = v) (hown : w.ownsRow B 9 1 v l1.length (l1.map Value.string))
    (x' : Value) (l2 : List Str) (hx : a.eval x = x') (hr : RStrs w x' l2) (hn : l1.length + l2.length ≤ 1000000000) (hB : B ≤ w.heap.size)
    (h : ∀ v' w', w'.ownsRow B 9 1 v' (l1 ++ l2).length ((l1 ++ l2).map Value.string) → w.grownBy w' v.ownBlock → wpList Tryz.prog ops Q rest (a.put o.dst v') w') : wpList Tryz.prog ops Q (o :: rest) a w := by
  obtain ⟨A, c, rfl, -, -⟩ := hr.form
  refine wpList_plain hgd fun K hK => app_row (t := 48) (e := 9) (size := 1) (bytes := 16) Tryz.underlying48 Tryz.info9 rfl (by decide) s x ho B v l1.length (l1.map Value.string) hs hown A l2.length c (l2.map Value.string) hx hr.src (strs_one l2) (by unfold maxLen; omega) (by omega) hB (fun v' w' h1 h2 _ => hK _ _ (h v' w' ?_ h2))
  rw [List.length_append, List.map_append]; exact h1
theorem own_nil {w : World} {B : Nat} : w.ownsRow B 9 1 (.slice none 0 0) ([] : List Str).length (([] : List Str).map Value.string) := ⟨by simp, .inl ⟨rfl, rfl⟩⟩
theorem grown_ext {w w' : World} {v : Value} {B : Nat} {n : Nat} {xs : List Value} (hg : w.grownBy w' v.ownBlock) (hv : w.ownsRow B 9 1 v n xs) (hB : B ≤ w.heap.size) : Below B w w' :=
  Below.grown (Below.refl _ _) hg hB (fun j e => (hv.lt j e).1)
end Go.Proofs.YtogmjgccopmplaaGreat

/- ref.go: In, With. -/
namespace Go.Proofs.YtogmjgccopmplaaGreat
open Go.RowKit
set_option maxHeartbeats 1000000 in
set_option maxRecDepth 100000 in
theorem In_any (v : Value) (l : List Str) (s : Str) (w : World) (h : RStrs w v l) :
    Calls Tryz.prog 47 #[v, .string s] w fun e w' => e = .returned (.bool (hasS l s)) ∧ w = w' := by
  have H := Lib.hid h
  obtain ⟨A, c, rfl, hc, hm⟩ := h.form
  have HS : Hid (hasS l s = hasS l s) := rfl
  generalize hrr : hasS l s = rr
  have HR : Hid (rr = hasS l s) := hrr.symm
  clear h hrr HS
  unfold maxLen at hm
  go_enter Tryz.func47, Tryz.ntmps47
  go_wp2
  go_loopw [9] (fun i wr => ∃ k : Nat, k ≤ l.length ∧ i = .int .i64 k ∧ w = wr ∧ rr = hasS (l.drop k) s) (fun i _ => l.length - (intOf i).toNat)
  case atStart => exact ⟨0, Nat.zero_le _, rfl, rfl, HR.out⟩
  case round =>
    obtain ⟨k, hk, rfl, rfl, hno⟩ := hrel
    have HN := Lib.hid hno
    clear hno
    by_cases hlt : k < l.length
    · obtain ⟨b, o, rfl, hbl, y0, hs⟩ := H.out.at_ hlt
      have HD := Lib.hid (drop_step hlt)
      have HX : Hid (rr = (eqS s l[k] || hasS (l.drop (k + 1)) s)) := by show _ = _; rw [HN.out, HD.out, hasS_cons']
      generalize l[k] = x at *
      go_wp2
      · have hq : eqS x s = true := by assumption
        go_ret
        exact ⟨ret_bool (by rw [HX.out, eqS_comm, hq]; rfl), rfl⟩
      · have hq : eqS x s = false := by assumption
        refine ⟨⟨k + 1, by omega, by go_num, trivial, by rw [HX.out, eqS_comm, hq]; rfl⟩, by simp [intOf]; omega⟩
    · have HK := Lib.hid (drop_end hlt)
      go_wp2
      go_ret
      exact ⟨ret_bool (by rw [HN.out, HK.out]; rfl), rfl⟩
set_option maxHeartbeats 1000000 in
set_option maxRecDepth 100000 in
theorem With_any (v1 v2 : Value) (l1 l2 : List Str) (w : World) (h1 : RStrs w v1 l1) (h2 : RStrs w v2 l2) (hs1 : ∀ s ∈ l1, s.size ≤ maxLen) (hs2 : ∀ s ∈ l2, s.size ≤ maxLen) (hl : l1.length + l2.length ≤ 1000000000) :
    Calls Tryz.prog 45 #[v1, v2] w fun e w' => ∃ v, e = .returned v ∧ RStrs w' v (l1 ++ l2) ∧ Ext w w' := by
  have H1 := Lib.hid h1; have H2 := Lib.hid h2; have HS : Hid (∀ s ∈ l1 ++ l2, s.size ≤ maxLen) := fun s h => (List.mem_append.1 h).elim (hs1 s) (hs2 s)
  clear h1 h2 hs1 hs2
  have hN : l1.length ≤ 1000000000 := by omega
  go_enter Tryz.func45, Tryz.ntmps45
  go_wp2_with (at_builtin; refine app_strs rfl _ _ rfl w.heap.size _ [] rfl own_nil v1 l1 rfl H1.out (by simp; omega) (Nat.le_refl _) ?_)
  intro v' w2 ho hg
  have HO := Lib.hid ho
  have hE : Ext w w2 := ⟨hg.os, hg.tape, hg.output, hg.size, fun k hk => hg.block k hk (by simp [Value.ownBlock])⟩
  have HE := Lib.hid hE
  clear ho hg hE
  go_wp2_with (at_builtin; refine app_strs rfl _ _ rfl w.heap.size v' l1 rfl HO.out v2 l2 rfl (H2.out.below HE.out) hl HE.out.size ?_)
  intro v'' w3 ho hg
  have HO3 := Lib.hid ho
  have HE3 := Lib.hid (HE.out.trans (grown_ext hg HO.out HE.out.size))
  clear ho hg
  go_wp2
  go_ret
  have h3 := HO3.out
  rw [← List.length_append, ← List.map_append] at h3
  exact ⟨v'', rfl, own_strs h3 HS.out, HE3.out⟩
end Go.Proofs.YtogmjgccopmplaaGreat

/- A statement whose order is open: an invariant over what has been done. -/
namespace Go.Proofs.YtogmjgccopmplaaGreat
open Go.RowKit
/-- Every operation waits only for operations ahead of it in the text. -/
def backB (ops : Array Oper) : Bool := (List.range ops.size).all fun i => ((ops[i]?).map fun o => o.after.all fun e => decide (e.on < i)).getD true
def openN (n : Nat) (listed : Array Bool) : Nat := (List.range n).countP fun i => !listed.getD i false
theorem getD_eq {listed : Array Bool} {i : Nat} (h : i < listed.size) (a b : Bool) : listed.getD i a = listed.getD i b := by
  simp [Array.getD, h]
theorem openN_zero {n : Nat} {listed : Array Bool} (h : openN n listed = 0) : ∀ i, i < n → listed.getD i false = true := by
  intro i hi
  unfold openN at h
  rw [List.countP_eq_zero] at h
  have := h i (List.mem_range.2 hi)
  cases hb : listed.getD i false
  · rw [hb] at this; simp at this
  · rfl
theorem set_getD {listed : Array Bool} {i j : Nat} (hi : i < listed.size) : (listed.setIfInBounds i true).getD j false = (decide (j = i) || listed.getD j false) := by
  by_cases h : j = i
  · subst h; simp [Array.getD, hi]
  · have h' : i ≠ j := fun e => h e.symm
    rw [Array.getD_eq_getD_getElem?, Array.getD_eq_getD_getElem?, Array.getElem?_setIfInBounds_ne h']; simp [h]
theorem count_lt {α : Type} {p q : α → Bool} : ∀ (l : List α), (∀ x ∈ l, q x = true → p x = true) → (∃ x ∈ l, p x = true ∧ q x = false) → l.countP q < l.countP p
  | [], _, h => by obtain ⟨x, hx, _⟩ := h; cases hx
  | a :: r, hpq, h => by
    have hle : r.countP q ≤ r.countP p := List.countP_mono_left fun x hx hq => hpq x (List.mem_cons_of_mem _ hx) hq
    rw [List.countP_cons, List.countP_cons]
    obtain ⟨x, hx, hp, hq⟩ := h
    rcases List.mem_cons.1 hx with rfl | hx
    · rw [hp, hq]; simp; omega
    · have := count_lt r (fun y hy => hpq y (List.mem_cons_of_mem _ hy)) ⟨x, hx, hp, hq⟩
      have h2 := hpq a (List.mem_cons_self ..)
      cases hqa : q a
      · simp; omega
      · rw [h2 hqa]; simp; omega
theorem openN_set {n : Nat} {listed : Array Bool} {i : Nat} (hs : listed.size = n) (hi : i < n) (hl : listed.getD i false = false) : openN n (listed.setIfInBounds i true) < openN n listed := by
  unfold openN
  refine count_lt _ (fun x _ hq => ?_) ⟨i, List.mem_range.2 hi, by rw [hl]; rfl, by rw [set_getD (by omega)]; simp⟩
  rw [set_getD (by omega)] at hq
  cases hb : listed.getD x false
  · rfl
  · rw [hb] at hq; simp at hq
theorem all_of_ready {md : Region.Mode} {ops : Array Oper} {listed : Array Bool} (hb : backB ops = true) (hs : listed.size = ops.size) (hr : Region.ready md ops listed = []) : ∀ i, i < ops.size → listed.getD i false = true := by
  intro i
  induction i using Nat.strongRecOn with
  | _ i ih =>
    intro hi
    cases hl : listed.getD i false
    · exfalso
      have hm : i ∈ Region.ready md ops listed := by
        unfold Region.ready
        rw [List.mem_filter]
        refine ⟨List.mem_range.2 hi, ?_⟩
        rw [getD_eq (by omega) true false, hl]
        have ho : ops[i]? = some ops[i] := Array.getElem?_eq_getElem hi
        rw [ho]
        simp only [Bool.not_false, Bool.true_and, Option.map_some, Option.getD_some, Array.all_eq_true, Bool.or_eq_true]
        intro j hj
        right
        unfold backB at hb
        rw [List.all_eq_true] at hb
        have h1 := hb i (List.mem_range.2 hi)
        rw [ho] at h1
        simp only [Option.map_some, Option.getD_some, Array.all_eq_true, decide_eq_true_eq] at h1
        exact ih _ (h1 j hj) (by have := h1 j hj; omega)
      rw [hr] at hm; cases hm
    · rfl
theorem wpAny_inv {P : Program} {md : Region.Mode} {ops : Array Oper} {Q : Exit → Act → World → Prop} (hb : backB ops = true) (Inv : (Nat → Bool) → Act → World → Prop)
    (hstep : ∀ (L : Nat → Bool) (a : Act) (w : World) (i : Nat) (o : Oper), ops[i]? = some o → (∀ e ∈ o.after.toList, Region.binds md e = true → L e.on = true) → L i = false → Inv L a w →
      wpOp P ops Q i (fun a' w' => Inv (fun j => decide (j = i) || L j) a' w') a w)
    (hdone : ∀ (L : Nat → Bool) (a : Act) (w : World), (∀ i, i < ops.size → L i = true) → Inv L a w → Q .normal a w) :
    ∀ (fuel : Nat) (listed : Array Bool) (a : Act) (w : World), listed.size = ops.size → openN ops.size listed ≤ fuel → Inv (fun j => listed.getD j false) a w → wpAny P md ops Q fuel listed a w := by
  intro fuel
  induction fuel with
  | zero =>
    intro listed a w hs hn hI
    have hall := openN_zero (Nat.le_zero.1 hn)
    refine ⟨?_, hdone _ a w hall hI⟩
    unfold Region.ready
    rw [List.filter_eq_nil_iff]
    intro i hi
    have := hall i (List.mem_range.1 hi)
    rw [getD_eq (by have := List.mem_range.1 hi; omega) true false, this]
    simp
  | succ fuel ih =>
    intro listed a w hs hn hI
    refine ⟨fun hr => hdone _ a w (all_of_ready hb hs hr) hI, fun i hi => ?_⟩
    unfold Region.ready at hi
    rw [List.mem_filter] at hi
    obtain ⟨hir, hc⟩ := hi
    have hlt := List.mem_range.1 hir
    have ho : ops[i]? = some ops[i] := Array.getElem?_eq_getElem hlt
    rw [ho, Bool.and_eq_true] at hc
    obtain ⟨hc1, hc2⟩ := hc
    have hl : listed.getD i false = false := by
      rw [getD_eq (by omega) true false] at hc1
      cases hh : listed.getD i false
      · rfl
      · rw [hh] at hc1; cases hc1
    refine wpOp_mono (fun a' w' hI' => ih (listed.setIfInBounds i true) a' w' (by simpa using hs) ?_ ?_) (hstep _ a w i _ ho (fun e he hbd => ?_) hl hI)
    · have := openN_set hs hlt hl
      omega
    · have hf : (fun j => (listed.setIfInBounds i true).getD j false) = (fun j => decide (j = i) || listed.getD j false) := by
        funext j; exact set_getD (by omega)
      rw [hf]; exact hI'
    · simp only [Option.map_some, Option.getD_some] at hc2
      rw [Array.all_eq_true] at hc2
      obtain ⟨n, hn', rfl⟩ := List.getElem_of_mem he
      have := hc2 n (by simpa using hn')
      rw [Bool.or_eq_true] at this
      rcases this with h | h
      · have hb' : Region.binds md ops[i].after[n] = true := by simpa using hbd
        rw [hb'] at h; cases h
      · simpa using h
theorem openN_start (n : Nat) : openN n (Array.replicate n false) = n := by
  unfold openN
  rw [List.countP_eq_length.2, List.length_range]
  intro i hi
  have := List.mem_range.1 hi
  simp [Array.getD, this]
theorem wp_region_inv {P : Program} {id : Nat} {Q : Exit → Act → World → Prop} {a : Act} {w : World} {ops : Array Oper} (hm : P.follows .mixedOrders = true) (hb : backB ops = true) (Inv : (Nat → Bool) → Act → World → Prop)
    (h0 : Inv (fun _ => false) a w.drew)
    (hstep : ∀ (L : Nat → Bool) (a : Act) (w : World) (i : Nat) (o : Oper), ops[i]? = some o → (∀ e ∈ o.after.toList, Region.binds .any e = true → L e.on = true) → L i = false → Inv L a w →
      ∀ K : Act → World → Prop, Hid (∀ a' w', Inv (fun j => decide (j = i) || L j) a' w' → K a' w') → if Region.wanted o (yielded ops a.tmps) = true then Oper.wp P o a w K Q else K (a.put o.dst undef) w)
    (hdone : ∀ (L : Nat → Bool) (a : Act) (w : World), (∀ i, i < ops.size → L i = true) → Inv L a w → Q .normal a w) : (Code.region id ops true).wp P Q a w := by
  refine wp_region_any hm (wpAny_inv hb Inv (fun L a w i o ho hp hl hI => wpOp_step ho fun K hK => hstep L a w i o ho hp hl hI K hK) hdone _ _ _ _ (by simp) (Nat.le_of_eq (openN_start _)) ?_)
  have hf : (fun j => (Array.replicate ops.size false).getD j false) = (fun _ => false) := by
    funext j
    by_cases h : j < ops.size <;> simp [Array.getD, h]
  rw [hf]; exact h0
end Go.Proofs.YtogmjgccopmplaaGreat

/- ref.go: Insert. -/
namespace Go.Proofs.YtogmjgccopmplaaGreat
open Go.RowKit
def ltS (a b : Str) : Prop := a.data.toList < b.data.toList
theorem RStrs.take {w : World} {A : Option Addr} {c : Nat} {l : List Str} (h : RStrs w (.slice A l.length c) l) {k : Nat} (hk : k ≤ l.length) : RStrs w (.slice A k c) (l.take k) := by
  obtain ⟨A', c', e, h1, h2, h3⟩ := h
  cases e
  have hl : (l.take k).length = k := by simp; omega
  refine ⟨A, c, by rw [hl], by omega, h2, fun i a hi => ?_⟩
  have := h3 i a
  rw [List.getElem?_take] at hi
  split at hi
  · exact this hi
  · cases hi
theorem RStrs.drop {w : World} {b o : Nat} {c : Nat} {l : List Str} (h : RStrs w (.slice (some ⟨b, o, none⟩) l.length c) l) {k : Nat} (hk : k ≤ l.length) : RStrs w (.slice (some ⟨b, o + k, none⟩) (l.length - k) (c - k)) (l.drop k) := by
  obtain ⟨A', c', e, h1, h2, h3⟩ := h
  cases e
  have hl : (l.drop k).length = l.length - k := by simp
  refine ⟨some ⟨b, o + k, none⟩, c - k, by rw [hl], by omega, by omega, fun i a hi => ?_⟩
  rw [List.getElem?_drop] at hi
  obtain ⟨b', o', e', h4, h5, h6⟩ := h3 (k + i) a hi
  cases e'
  exact ⟨b, o + k, rfl, h4, by rw [Nat.add_assoc]; exact h5, h6⟩
theorem RStrs.sizes {w : World} {v : Value} {l : List Str} (h : RStrs w v l) : ∀ x ∈ l, x.size ≤ maxLen := by
  obtain ⟨A, c, rfl, -, -⟩ := h.form
  intro x hx
  obtain ⟨i, hi, rfl⟩ := List.getElem_of_mem hx
  obtain ⟨b, o, -, -, -, q⟩ := h.at_ hi
  exact q
def put3 (a : Act) (vv : Nat → Value) : Act :=
  ((((((((((((a.put (some 33) (vv 0)).put (some 34) (vv 1)).put (some 35) (vv 2)).put (some 36) (vv 3)).put (some 37) (vv 4)).put (some 38) (vv 5)).put (some 39) (vv 6)).put (some 40) (vv 7)).put (some 41) (vv 8)).put (some 42) (vv 9)).put (some 43) (vv 10)).put (some 4) (vv 11))
/-- What each operation of the statement has made. -/
structure F3 (w W : World) (v0 : Value) (l : List Str) (k : Nat) (s : Str) (L : Nat → Bool) (vv : Nat → Value) : Prop where
  ext : Ext w W
  d10 : L 10 = true → L 6 = true
  d11 : L 11 = true → L 10 = true
  f0 : L 0 = true → vv 0 = v0
  f1 : L 1 = true → vv 1 = .int .i64 k
  f2 : L 2 = true → RStrs w (vv 2) (l.take k)
  f3 : L 3 = true → L 6 = false → W.ownsRow w.heap.size 9 1 (vv 3) (l.take k).length ((l.take k).map Value.string)
  f4 : L 4 = true → vv 4 = .string s
  f5 : L 5 = true → L 6 = false → ∃ g, vv 5 = .slice (some ⟨g, 0, none⟩) 1 1 ∧ W.heap[g]? = some (.cells #[.string s] 9 (0, 0))
  f6 : L 6 = true → L 10 = false → W.ownsRow w.heap.size 9 1 (vv 6) (l.take k ++ [s]).length ((l.take k ++ [s]).map Value.string)
  f7 : L 7 = true → vv 7 = v0
  f8 : L 8 = true → vv 8 = .int .i64 k
  f9 : L 9 = true → RStrs w (vv 9) (l.drop k)
  f10 : L 10 = true → W.ownsRow w.heap.size 9 1 (vv 10) (l.take k ++ [s] ++ l.drop k).length ((l.take k ++ [s] ++ l.drop k).map Value.string)
  f11 : L 11 = true → W.ownsRow w.heap.size 9 1 (vv 11) (l.take k ++ [s] ++ l.drop k).length ((l.take k ++ [s] ++ l.drop k).map Value.string)
end Go.Proofs.YtogmjgccopmplaaGreat

/- ref.go: what the search for free names has found so far. -/
namespace Go.Proofs.YtogmjgccopmplaaGreat
open Go.RowKit
/-- The accumulated variables: those given, and the free ones of the parts seen. -/
def AccV (la lv : List Str) (pre : List (Bnd × Tm)) (l : List Str) : Prop := ∀ k, k ∈ l ↔ k ∈ la ∨ (hasS lv k = false ∧ pre.any (fvK k) = true)
theorem AccV.zero (la lv : List Str) : AccV la lv [] la := fun k => by simp
theorem AccV.step {la lv l l' : List Str} {pre : List (Bnd × Tm)} {y : Bnd × Tm} (h : AccV la lv pre l) (h' : ∀ k, k ∈ l' ↔ k ∈ l ∨ (hasS (lv ++ vnames y.1) k = false ∧ fvT y.2 k = true)) : AccV la lv (pre ++ [y]) l' := fun k => by
  rw [h' k, h k, List.any_append, hasS_append]
  have e : fvK k y = (!hasS (vnames y.1) k && fvT y.2 k) := rfl
  simp only [List.any_cons, List.any_nil, Bool.or_false, e]
  cases hasS lv k <;> cases hasS (vnames y.1) k <;> cases fvT y.2 k <;> cases pre.any (fvK k) <;> simp
/-- The accumulated labels: those given, and the free ones of the parts seen. -/
def AccL (la lv : List Str) (pre : List (Bnd × Tm)) (l : List Str) : Prop := ∀ k, k ∈ l ↔ k ∈ la ∨ (hasS lv k = false ∧ pre.any (flK k) = true)
theorem AccL.zero (la lv : List Str) : AccL la lv [] la := fun k => by simp
theorem AccL.step {la lv l l' : List Str} {pre : List (Bnd × Tm)} {y : Bnd × Tm} (h : AccL la lv pre l) (h' : ∀ k, k ∈ l' ↔ k ∈ l ∨ (hasS (lv ++ lnames y.1) k = false ∧ flT y.2 k = true)) : AccL la lv (pre ++ [y]) l' := fun k => by
  rw [h' k, h k, List.any_append, hasS_append]
  have e : flK k y = (!hasS (lnames y.1) k && flT y.2 k) := rfl
  simp only [List.any_cons, List.any_nil, Bool.or_false, e]
  cases hasS lv k <;> cases hasS (lnames y.1) k <;> cases flT y.2 k <;> cases pre.any (flK k) <;> simp
end Go.Proofs.YtogmjgccopmplaaGreat
