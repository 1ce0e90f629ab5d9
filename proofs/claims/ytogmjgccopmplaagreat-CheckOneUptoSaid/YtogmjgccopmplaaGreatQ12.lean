/- ref.go: Insert. -/
import Derived.Test.YtogmjgccopmplaaGreatQ11
namespace Go.Proofs.YtogmjgccopmplaaGreat
open Go.RowKit

theorem less_eq : ∀ (x y : List UInt8), Op.bytesLess x y = decide (x < y)
  | x, [] => by simp [Op.bytesLess]
  | [], b :: y => by simp [Op.bytesLess]
  | a :: x, b :: y => by
    rw [Op.bytesLess, less_eq x y]
    by_cases h1 : a < b
    · simp [h1, List.cons_lt_cons_iff]
    · by_cases h2 : a = b
      · subst h2; simp
      · simp [h1, h2, List.cons_lt_cons_iff]
def ltS (a b : Str) : Prop := a.data.toList < b.data.toList
theorem less_true {a b : Str} (h : Op.bytesLess a.toList b.toList = true) : ltS a b := by
  rw [less_eq, ByteArray.toList_eq, ByteArray.toList_eq] at h; exact (show a.data.toList < b.data.toList from of_decide_eq_true h)
theorem less_false {a b : Str} (h : Op.bytesLess a.toList b.toList = false) (hne : eqS a b = false) : ltS b a := by
  rw [less_eq, ByteArray.toList_eq, ByteArray.toList_eq] at h
  have h1 : ¬ a.data.toList < b.data.toList := of_decide_eq_false h
  rcases List.le_iff_lt_or_eq.1 (List.not_lt.1 h1) with h2 | h2
  · exact (show b.data.toList < a.data.toList from h2)
  · exact absurd (Go.WideShapes.bytes_inj h2.symm) (eqS_ne hne)
theorem ins_sorted {l : List Str} {s : Str} {k : Nat} (h1 : ∀ x ∈ l.take k, ltS x s) (h2 : ∀ (hk : k < l.length), ltS s l[k]) (h : SortedS l) : SortedS (l.take k ++ s :: l.drop k) := by
  unfold SortedS at *
  have hl : (l.take k ++ l.drop k).Pairwise (fun a b => a.data.toList < b.data.toList) := by rw [List.take_append_drop]; exact h
  obtain ⟨p1, p2, p3⟩ := List.pairwise_append.1 hl
  have hd : ∀ x ∈ l.drop k, ltS s x := by
    intro x hx
    by_cases hk : k < l.length
    · rw [List.drop_eq_getElem_cons hk] at hx p2
      rcases List.mem_cons.1 hx with rfl | hx
      · exact h2 hk
      · exact List.lt_trans (h2 hk) ((List.pairwise_cons.1 p2).1 x hx)
    · rw [List.drop_eq_nil_of_le (by omega)] at hx; cases hx
  refine List.pairwise_append.2 ⟨p1, List.pairwise_cons.2 ⟨hd, p2⟩, fun a ha b hb => ?_⟩
  rcases List.mem_cons.1 hb with rfl | hb
  · exact h1 a ha
  · exact p3 a ha b hb
theorem ins_mem {l : List Str} {s : Str} {n : Nat} (k : Str) : k ∈ l.take n ++ s :: l.drop n ↔ k ∈ l ∨ k = s := by
  have : k ∈ l ↔ k ∈ l.take n ++ l.drop n := by rw [List.take_append_drop]
  rw [this]
  simp only [List.mem_append, List.mem_cons]
  constructor
  · rintro (h | h | h) <;> simp [h]
  · rintro ((h | h) | h) <;> simp [h]
theorem RStrs.take {w : World} {A : Option Addr} {c : Nat} {l : List Str} (h : RStrs w (.slice A l.length c) l) {k : Nat} (hk : k ≤ l.length) : RStrs w (.slice A k c) (l.take k) := by
  obtain ⟨A', c', e, h1, h2, h3⟩ := h
  cases e
  have hl : (l.take k).length = k := by simp; omega
  refine ⟨A, c, by rw [hl], by omega, h2, fun i a hi => ?_⟩
  have := h3 i a
  rw [List.getElem?_take] at hi
  split at hi
  · exact this hi
  · cases hi
theorem RStrs.drop {w : World} {b o : Nat} {c : Nat} {l : List Str} (h : RStrs w (.slice (some ⟨b, o, none⟩) l.length c) l) {k : Nat} (hk : k ≤ l.length) : RStrs w (.slice (some ⟨b, o + k, none⟩) (l.length - k) (c - k)) (l.drop k) := by
  obtain ⟨A', c', e, h1, h2, h3⟩ := h
  cases e
  have hl : (l.drop k).length = l.length - k := by simp
  refine ⟨some ⟨b, o + k, none⟩, c - k, by rw [hl], by omega, by omega, fun i a hi => ?_⟩
  rw [List.getElem?_drop] at hi
  obtain ⟨b', o', e', h4, h5, h6⟩ := h3 (k + i) a hi
  cases e'
  exact ⟨b, o + k, rfl, h4, by rw [Nat.add_assoc]; exact h5, h6⟩

theorem wp_region_inv_at {P : Program} {id : Nat} {Q : Exit → Act → World → Prop} {a : Act} {w : World} {ops : Array Oper} (hm : P.follows .mixedOrders = true) (hb : backB ops = true) (Inv : Act → (Nat → Bool) → Act → World → Prop)
    (h0 : Inv a (fun _ => false) a w.drew)
    (hstep : ∀ (L : Nat → Bool) (a' : Act) (w : World) (i : Nat) (o : Oper), ops[i]? = some o → (∀ e ∈ o.after.toList, Region.binds .any e = true → L e.on = true) → L i = false → Inv a L a' w →
      ∀ K : Act → World → Prop, Hid (∀ a'' w', Inv a (fun j => decide (j = i) || L j) a'' w' → K a'' w') → if Region.wanted o (yielded ops a'.tmps) = true then Oper.wp P o a' w K Q else K (a'.put o.dst undef) w)
    (hdone : ∀ (L : Nat → Bool) (a' : Act) (w : World), (∀ i, i < ops.size → L i = true) → Inv a L a' w → Q .normal a' w) : (Code.region id ops true).wp P Q a w :=
  wp_region_inv hm hb (Inv a) h0 hstep hdone
theorem RStrs.sizes {w : World} {v : Value} {l : List Str} (h : RStrs w v l) : ∀ x ∈ l, x.size ≤ maxLen := by
  obtain ⟨A, c, rfl, -, -⟩ := h.form
  intro x hx
  obtain ⟨i, hi, rfl⟩ := List.getElem_of_mem hx
  obtain ⟨b, o, -, -, -, q⟩ := h.at_ hi
  exact q
theorem RStrs.drop_any {w : World} {A : Option Addr} {c : Nat} {l : List Str} (h : RStrs w (.slice A l.length c) l) {k : Nat} (hk : k ≤ l.length) : RStrs w (.slice (if c = k then A else Option.map (fun x => x.add k) A) (l.length - k) (c - k)) (l.drop k) := by
  obtain ⟨_, _, e, hc, hm⟩ := h.form
  cases e
  by_cases he : k = l.length
  · subst he
    rw [List.drop_length, Nat.sub_self]
    exact ⟨_, _, rfl, Nat.zero_le _, by omega, fun i a h => by cases h⟩
  · obtain ⟨b, o, rfl, -⟩ := h.at_ (k := 0) (by omega)
    have := h.drop hk
    rw [if_neg (by omega)]
    show RStrs w (.slice (some ((⟨b, o, none⟩ : Addr).add k)) _ _) _
    rw [add_at]; exact this
def put3 (a : Act) (vv : Nat → Value) : Act :=
  ((((((((((((a.put (some 33) (vv 0)).put (some 34) (vv 1)).put (some 35) (vv 2)).put (some 36) (vv 3)).put (some 37) (vv 4)).put (some 38) (vv 5)).put (some 39) (vv 6)).put (some 40) (vv 7)).put (some 41) (vv 8)).put (some 42) (vv 9)).put (some 43) (vv 10)).put (some 4) (vv 11))
theorem put3_at {a : Act} {vv : Nat → Value} (h : a.tmps.size = 44) : (put3 a vv).eval (.tmp 35) = vv 2 ∧ (put3 a vv).eval (.tmp 36) = vv 3 ∧ (put3 a vv).eval (.tmp 38) = vv 5 ∧ (put3 a vv).eval (.tmp 39) = vv 6 ∧ (put3 a vv).eval (.tmp 42) = vv 9 := by
  simp [put3, Act.put, Act.eval, h]
/-- What each operation of the statement has made. -/
structure F3 (w W : World) (v0 : Value) (l : List Str) (k : Nat) (s : Str) (L : Nat → Bool) (vv : Nat → Value) : Prop where
  ext : Ext w W
  d10 : L 10 = true → L 6 = true
  d11 : L 11 = true → L 10 = true
  f0 : L 0 = true → vv 0 = v0
  f1 : L 1 = true → vv 1 = .int .i64 k
  f2 : L 2 = true → RStrs w (vv 2) (l.take k)
  f3 : L 3 = true → L 6 = false → W.ownsRow w.heap.size 9 1 (vv 3) (l.take k).length ((l.take k).map Value.string)
  f4 : L 4 = true → vv 4 = .string s
  f5 : L 5 = true → L 6 = false → ∃ g, vv 5 = .slice (some ⟨g, 0, none⟩) 1 1 ∧ W.heap[g]? = some (.cells #[.string s] 9 (0, 0))
  f6 : L 6 = true → L 10 = false → W.ownsRow w.heap.size 9 1 (vv 6) (l.take k ++ [s]).length ((l.take k ++ [s]).map Value.string)
  f7 : L 7 = true → vv 7 = v0
  f8 : L 8 = true → vv 8 = .int .i64 k
  f9 : L 9 = true → RStrs w (vv 9) (l.drop k)
  f10 : L 10 = true → W.ownsRow w.heap.size 9 1 (vv 10) (l.take k ++ [s] ++ l.drop k).length ((l.take k ++ [s] ++ l.drop k).map Value.string)
  f11 : L 11 = true → W.ownsRow w.heap.size 9 1 (vv 11) (l.take k ++ [s] ++ l.drop k).length ((l.take k ++ [s] ++ l.drop k).map Value.string)
set_option maxHeartbeats 2000000 in
set_option maxRecDepth 100000 in
theorem Insert_any (v : Value) (l : List Str) (s : Str) (w : World) (h : RStrs w v l) (hs : s.size ≤ maxLen) (hl : l.length ≤ 100000000) :
    Calls Tryz.prog 84 #[v, .string s] w fun e w' => ∃ v' l', e = .returned v' ∧ RStrs w' v' l' ∧ (SortedS l → SortedS l') ∧ (∀ k, k ∈ l' ↔ k ∈ l ∨ k = s) ∧ l'.length ≤ l.length + 1 ∧ Ext w w' := by
  have H := Lib.hid h
  obtain ⟨A, c, rfl, hc, hm⟩ := h.form
  have HS := Lib.hid hs
  clear h hs
  unfold maxLen at hm
  go_enter Tryz.func84, Tryz.ntmps84
  go_wp2
  go_loopw [5] (fun i wr => ∃ k : Nat, k ≤ l.length ∧ i = .int .i64 k ∧ w = wr ∧ ∀ x ∈ l.take k, ltS x s) (fun i _ => l.length - (intOf i).toNat)
  case atStart => exact ⟨0, Nat.zero_le _, rfl, rfl, fun x h => by simp at h⟩
  case round =>
    obtain ⟨k, hk, rfl, rfl, hlow⟩ := hrel
    have HLOW := Lib.hid hlow
    clear hlow
    by_cases hlt : k < l.length
    · obtain ⟨b, o, rfl, hbl, y0, hsz⟩ := H.out.at_ hlt
      have HX : Hid (∀ x, x = l[k] → ltS x s → ∀ y ∈ l.take (k + 1), ltS y s) := fun x hx hxs y hy => by
        rw [List.take_succ_eq_append_getElem hlt] at hy
        rcases List.mem_append.1 hy with hy | hy
        · exact HLOW.out y hy
        · rw [List.mem_singleton.1 hy, ← hx]; exact hxs
      have HY : Hid (∀ x, x = l[k] → eqS x s = true → s ∈ l) := fun x hx he => by rw [← eqS_iff.1 he, hx]; exact List.getElem_mem _
      have HZ : Hid (∀ x, x = l[k] → ltS s x → ∀ (hk : k < l.length), ltS s l[k]) := fun x hx hh _ => by rw [← hx]; exact hh
      generalize hx : l[k] = x at *
      have HX := Lib.hid (HX.out x rfl)
      have HY := Lib.hid (HY.out x rfl)
      have HZ := Lib.hid (HZ.out x rfl)
      clear hx
      go_wp2
      · have q : Op.bytesLess x.toList s.toList = true := by assumption
        exact ⟨⟨k + 1, by omega, by go_num, trivial, HX.out (less_true q)⟩, by simp [intOf]; omega⟩
      · have q : eqS x s = true := by assumption
        go_ret
        exact ⟨_, l, rfl, H.out, fun h => h, fun j => ⟨.inl, fun h => h.elim id (fun e => e ▸ HY.out q)⟩, Nat.le_succ _, Ext.rf _⟩
      · have q1 : Op.bytesLess x.toList s.toList = false := by assumption
        have q2 : eqS x s = false := by assumption
        have HG := Lib.hid (HZ.out (less_false q1 q2))
        have q3 : (x.toList == s.toList) = false := q2
        clear q2 HX HY HZ
        generalize Op.bytesLess x.toList s.toList = bb at *
        generalize (x.toList == s.toList) = cc at *
        subst q1 q3
        have hmx : Tryz.prog.follows .mixedOrders = true := by kernel_rfl
        generalize hA0 : (some (⟨b, o, none⟩ : Addr)) = A0
        have HA0 : Hid (RStrs w (.slice A0 l.length c) l) := by show RStrs w (.slice A0 l.length c) l; rw [← hA0]; exact H.out
        refine wp_region_inv_at hmx (by kernel_rfl) (fun a0 L a W => ∃ vv : Nat → Value, a = put3 a0 vv ∧ F3 w W (.slice A0 l.length c) l k s L vv) ?_ ?_ ?_
        · exact ⟨fun j => if j = 11 then .slice none 0 0 else undef, by simp [put3, Act.put], (Ext.rf _).drew, by simp, by simp, by simp, by simp, by simp, by simp, by simp, by simp, by simp, by simp, by simp, by simp, by simp, by simp⟩
        · intro L a W i o ho hpre hl ⟨vv, ha, HF⟩ K HK
          have hi : i < 12 := (Array.getElem?_eq_some_iff.1 ho).1
          subst ha
          have hcs : i = 0 ∨ i = 1 ∨ i = 2 ∨ i = 3 ∨ i = 4 ∨ i = 5 ∨ i = 6 ∨ i = 7 ∨ i = 8 ∨ i = 9 ∨ i = 10 ∨ i = 11 := by omega
          rcases hcs with rfl | rfl | rfl | rfl | rfl | rfl | rfl | rfl | rfl | rfl | rfl | rfl
          all_goals
            obtain rfl := Option.some.inj ho
            clear ho hi
          · clear hpre
            simp only [put3]
            go_simp
            exact HK.out _ _ ⟨fun j => if j = 0 then .slice A0 l.length c else vv j, by simp [put3, Act.put], ⟨HF.ext, (by simpa using HF.d10), (by simpa using HF.d11), (fun _ => rfl), (by simpa using HF.f1), (by simpa using HF.f2), (by simpa using HF.f3), (by simpa using HF.f4), (by simpa using HF.f5), (by simpa using HF.f6), (by simpa using HF.f7), (by simpa using HF.f8), (by simpa using HF.f9), (by simpa using HF.f10), (by simpa using HF.f11)⟩⟩
          · clear hpre
            simp only [put3]
            go_simp
            exact HK.out _ _ ⟨fun j => if j = 1 then .int .i64 k else vv j, by simp [put3, Act.put], ⟨HF.ext, (by simpa using HF.d10), (by simpa using HF.d11), (by simpa using HF.f0), (fun _ => rfl), (by simpa using HF.f2), (by simpa using HF.f3), (by simpa using HF.f4), (by simpa using HF.f5), (by simpa using HF.f6), (by simpa using HF.f7), (by simpa using HF.f8), (by simpa using HF.f9), (by simpa using HF.f10), (by simpa using HF.f11)⟩⟩
          · simp [Region.binds] at hpre
            have e0 := HF.f0 (by simp [hpre])
            have e1 := HF.f1 (by simp [hpre])
            have hkc : k ≤ c := by omega
            simp only [put3]
            go_simp
            exact HK.out _ _ ⟨fun j => if j = 2 then .slice A0 k c else vv j, by simp [put3, Act.put, e0, e1], ⟨HF.ext, (by simpa using HF.d10), (by simpa using HF.d11), (by simpa using HF.f0), (by simpa using HF.f1), (fun _ => by simpa using HA0.out.take hk), (by simpa using HF.f3), (by simpa using HF.f4), (by simpa using HF.f5), (by simpa using HF.f6), (by simpa using HF.f7), (by simpa using HF.f8), (by simpa using HF.f9), (by simpa using HF.f10), (by simpa using HF.f11)⟩⟩
          · simp [Region.binds] at hpre
            have r2 := HF.f2 (by simp [hpre])
            obtain ⟨A2, c2, e2, -, -⟩ := r2.form
            have r2' := r2.below HF.ext
            rw [e2] at r2'
            have HNIL : Hid (W.ownsRow w.heap.size 9 1 (.slice none 0 0) ([] : List Str).length (([] : List Str).map Value.string)) := own_nil
            rw [if_pos (by rfl)]
            refine app_row (t := 48) (e := 9) (size := 1) (bytes := 16) Tryz.underlying48 Tryz.info9 rfl (by decide) (.const (.slice none 0 0)) (.tmp 35) rfl w.heap.size (.slice none 0 0) ([] : List Str).length (([] : List Str).map Value.string) rfl HNIL.out A2 (l.take k).length c2 ((l.take k).map Value.string) ((put3_at rfl).1.trans e2) r2'.src (strs_one _) (by unfold maxLen; simp; omega) (by simp; omega) HF.ext.size (fun v' w' ho hg _ => ?_)
            have HB : Ext W w' := ⟨hg.os, hg.tape, hg.output, hg.size, fun j hj => hg.block j hj (by simp [Value.ownBlock])⟩
            exact HK.out _ _ ⟨fun j => if j = 3 then v' else vv j, by simp [put3, Act.put], ⟨HF.ext.tr HB, (by simpa using HF.d10), (by simpa using HF.d11), (by simpa using HF.f0), (by simpa using HF.f1), (by simpa using HF.f2), (fun _ _ => by simpa using ho), (by simpa using HF.f4), (fun h0 h1 => by obtain ⟨g, q1, q2⟩ := HF.f5 (by simpa using h0) (by simpa using h1); exact ⟨g, by simpa using q1, (HB.block _ (heap_lt q2)).trans q2⟩), (fun h0 h1 => own_below (HF.f6 (by simpa using h0) (by simpa using h1)) HB), (by simpa using HF.f7), (by simpa using HF.f8), (by simpa using HF.f9), (fun h0 => own_below (HF.f10 (by simpa using h0)) HB), (fun h0 => own_below (HF.f11 (by simpa using h0)) HB)⟩⟩
          · clear hpre
            simp only [put3]
            go_simp
            exact HK.out _ _ ⟨fun j => if j = 4 then .string s else vv j, by simp [put3, Act.put], ⟨HF.ext, (by simpa using HF.d10), (by simpa using HF.d11), (by simpa using HF.f0), (by simpa using HF.f1), (by simpa using HF.f2), (by simpa using HF.f3), (fun _ => rfl), (by simpa using HF.f5), (by simpa using HF.f6), (by simpa using HF.f7), (by simpa using HF.f8), (by simpa using HF.f9), (by simpa using HF.f10), (by simpa using HF.f11)⟩⟩
          · simp [Region.binds] at hpre
            have e4 := HF.f4 (by simp [hpre])
            have HB : Ext W (W.alloc (.cells #[.string s] 9)) := Ext.al _ _
            have hnw := heapNew W (.cells #[.string s] 9)
            simp only [put3]
            go_simp
            exact HK.out _ _ ⟨fun j => if j = 5 then .slice (some ⟨W.heap.size, 0, none⟩) 1 1 else vv j, by simp [put3, Act.put, e4], ⟨HF.ext.tr HB, (by simpa using HF.d10), (by simpa using HF.d11), (by simpa using HF.f0), (by simpa using HF.f1), (by simpa using HF.f2), (fun h0 h1 => own_below (HF.f3 (by simpa using h0) (by simpa using h1)) HB), (by simpa using HF.f4), (fun _ _ => ⟨_, rfl, hnw⟩), (fun h0 h1 => own_below (HF.f6 (by simpa using h0) (by simpa using h1)) HB), (by simpa using HF.f7), (by simpa using HF.f8), (by simpa using HF.f9), (fun h0 => own_below (HF.f10 (by simpa using h0)) HB), (fun h0 => own_below (HF.f11 (by simpa using h0)) HB)⟩⟩
          · simp [Region.binds] at hpre
            have o3 := HF.f3 (by simp [hpre]) hl
            obtain ⟨g, e5, hg5⟩ := HF.f5 (by simp [hpre]) hl
            rw [if_pos (by rfl)]
            refine app_row (t := 48) (e := 9) (size := 1) (bytes := 16) Tryz.underlying48 Tryz.info9 rfl (by decide) (.tmp 36) (.tmp 38) rfl w.heap.size (vv 3) (l.take k).length ((l.take k).map Value.string) (put3_at rfl).2.1 o3 (some ⟨g, 0, none⟩) ([s] : List Str).length 1 ([s].map Value.string) ((put3_at rfl).2.2.1.trans (show vv 5 = .slice (some ⟨g, 0, none⟩) ([s] : List Str).length 1 from e5)) (RStrs.src (RStrs.one hg5 HS.out)) (strs_one _) (by unfold maxLen; simp; omega) (by simp; omega) HF.ext.size (fun v' w' ho hg _ => ?_)
            have HB : Below w.heap.size W w' := grown_ext hg o3 HF.ext.size
            exact HK.out _ _ ⟨fun j => if j = 6 then v' else vv j, by simp [put3, Act.put], ⟨HF.ext.trans HB, (fun _ => by simp), (by simpa using HF.d11), (by simpa using HF.f0), (by simpa using HF.f1), (by simpa using HF.f2), (fun _ h1 => by simp at h1), (by simpa using HF.f4), (fun _ h1 => by simp at h1), (fun _ _ => by simpa using ho), (by simpa using HF.f7), (by simpa using HF.f8), (by simpa using HF.f9), (fun h0 => by have := HF.d10 (by simpa using h0); rw [hl] at this; cases this), (fun h0 => by have := HF.d10 (HF.d11 (by simpa using h0)); rw [hl] at this; cases this)⟩⟩
          · clear hpre
            simp only [put3]
            go_simp
            exact HK.out _ _ ⟨fun j => if j = 7 then .slice A0 l.length c else vv j, by simp [put3, Act.put], ⟨HF.ext, (by simpa using HF.d10), (by simpa using HF.d11), (by simpa using HF.f0), (by simpa using HF.f1), (by simpa using HF.f2), (by simpa using HF.f3), (by simpa using HF.f4), (by simpa using HF.f5), (by simpa using HF.f6), (fun _ => rfl), (by simpa using HF.f8), (by simpa using HF.f9), (by simpa using HF.f10), (by simpa using HF.f11)⟩⟩
          · clear hpre
            simp only [put3]
            go_simp
            exact HK.out _ _ ⟨fun j => if j = 8 then .int .i64 k else vv j, by simp [put3, Act.put], ⟨HF.ext, (by simpa using HF.d10), (by simpa using HF.d11), (by simpa using HF.f0), (by simpa using HF.f1), (by simpa using HF.f2), (by simpa using HF.f3), (by simpa using HF.f4), (by simpa using HF.f5), (by simpa using HF.f6), (by simpa using HF.f7), (fun _ => rfl), (by simpa using HF.f9), (by simpa using HF.f10), (by simpa using HF.f11)⟩⟩
          · simp [Region.binds] at hpre
            have e7 := HF.f7 (by simp [hpre])
            have e8 := HF.f8 (by simp [hpre])
            have hkc : k ≤ l.length := hk
            have HDR := Lib.hid (HA0.out.drop_any hk)
            simp only [put3]
            go_simp
            exact HK.out _ _ ⟨fun j => if j = 9 then .slice (if c = k then A0 else Option.map (fun x => x.add k) A0) (l.length - k) (c - k) else vv j, by simp [put3, Act.put, e7, e8], ⟨HF.ext, (by simpa using HF.d10), (by simpa using HF.d11), (by simpa using HF.f0), (by simpa using HF.f1), (by simpa using HF.f2), (by simpa using HF.f3), (by simpa using HF.f4), (by simpa using HF.f5), (by simpa using HF.f6), (by simpa using HF.f7), (by simpa using HF.f8), (fun _ => by simpa using HDR.out), (by simpa using HF.f10), (by simpa using HF.f11)⟩⟩
          · simp [Region.binds] at hpre
            have hpre6 : L 6 = true := by simp [hpre]
            have o6 := HF.f6 (by simp [hpre]) hl
            have r9 := HF.f9 (by simp [hpre])
            obtain ⟨A9, c9, e9, -, -⟩ := r9.form
            have r9' := r9.below HF.ext
            rw [e9] at r9'
            rw [if_pos (by rfl)]
            refine app_row (t := 48) (e := 9) (size := 1) (bytes := 16) Tryz.underlying48 Tryz.info9 rfl (by decide) (.tmp 39) (.tmp 42) rfl w.heap.size (vv 6) (l.take k ++ [s]).length ((l.take k ++ [s]).map Value.string) (put3_at rfl).2.2.2.1 o6 A9 (l.drop k).length c9 ((l.drop k).map Value.string) ((put3_at rfl).2.2.2.2.trans e9) r9'.src (strs_one _) (by unfold maxLen; simp; omega) (by simp; omega) HF.ext.size (fun v' w' ho hg _ => ?_)
            have HB : Below w.heap.size W w' := grown_ext hg o6 HF.ext.size
            exact HK.out _ _ ⟨fun j => if j = 10 then v' else vv j, by simp [put3, Act.put], ⟨HF.ext.trans HB, fun _ => by simp [hpre], (by simp), (by simpa using HF.f0), (by simpa using HF.f1), (by simpa using HF.f2), (fun _ h1 => by simp [hpre] at h1), (by simpa using HF.f4), (fun _ h1 => by simp [hpre] at h1), (fun _ h1 => by simp at h1), (by simpa using HF.f7), (by simpa using HF.f8), (by simpa using HF.f9), (fun _ => by have h0 := ho; rw [← List.length_append, ← List.map_append] at h0; simpa using h0), (fun h0 => by have := HF.d11 (by simpa using h0); rw [hl] at this; cases this)⟩⟩
          · simp [Region.binds] at hpre
            have o10 := HF.f10 (by simp [hpre])
            simp only [put3]
            go_simp
            exact HK.out _ _ ⟨fun j => if j = 11 then vv 10 else vv j, by simp [put3, Act.put], ⟨HF.ext, (by simpa using HF.d10), fun _ => by simp [hpre], (by simpa using HF.f0), (by simpa using HF.f1), (by simpa using HF.f2), (by simpa using HF.f3), (by simpa using HF.f4), (by simpa using HF.f5), (by simpa using HF.f6), (by simpa using HF.f7), (by simpa using HF.f8), (by simpa using HF.f9), (by simpa using HF.f10), (fun _ => by simpa using o10)⟩⟩
        · intro L a W hall ⟨vv, ha, HF⟩
          subst ha
          have o11 := HF.f11 (hall 11 (by decide))
          have HEX := Lib.hid HF.ext
          have HO := Lib.hid o11
          have HSZ : Hid (∀ x ∈ l, x.size ≤ maxLen) := RStrs.sizes HA0.out
          clear o11 HF hall
          simp only [put3]
          go_wp2
          go_ret
          have HRS : Hid (RStrs W (vv 11) (l.take k ++ [s] ++ l.drop k)) := own_strs HO.out (fun x hx => by
            rw [List.append_assoc] at hx
            rcases (ins_mem x).1 hx with h | h
            · exact HSZ.out x h
            · rw [h]; exact HS.out)
          have HSO : Hid (SortedS l → SortedS (l.take k ++ [s] ++ l.drop k)) := fun h => by rw [List.append_assoc]; exact ins_sorted HLOW.out HG.out h
          have HME : Hid (∀ j, j ∈ l.take k ++ [s] ++ l.drop k ↔ j ∈ l ∨ j = s) := fun j => by rw [List.append_assoc]; exact ins_mem j
          have HLE : Hid ((l.take k ++ [s] ++ l.drop k).length ≤ l.length + 1) := by show (l.take k ++ [s] ++ l.drop k).length ≤ l.length + 1; simp; omega
          generalize l.take k ++ [s] ++ l.drop k = R at *
          first | (exact ⟨_, rfl, R, HRS.out, HSO.out, HME.out, HLE.out, HEX.out⟩) | (refine ⟨_, R, rfl, ?_, HSO.out, HME.out, HLE.out, HEX.out⟩; simp [Act.put]; exact HRS.out)
    · have HG : Hid (∀ (hk : k < l.length), ltS s l[k]) := fun h => absurd h hlt
      go_wp2
      have hmx : Tryz.prog.follows .mixedOrders = true := by kernel_rfl
      obtain ⟨A0, hA0⟩ : ∃ A0, A0 = A := ⟨_, rfl⟩
      subst hA0
      have HA0 : Hid (RStrs w (.slice A0 l.length c) l) := H.out
      refine wp_region_inv_at hmx (by kernel_rfl) (fun a0 L a W => ∃ vv : Nat → Value, a = put3 a0 vv ∧ F3 w W (.slice A0 l.length c) l k s L vv) ?_ ?_ ?_
      · exact ⟨fun j => if j = 11 then .slice none 0 0 else undef, by simp [put3, Act.put], (Ext.rf _).drew, by simp, by simp, by simp, by simp, by simp, by simp, by simp, by simp, by simp, by simp, by simp, by simp, by simp, by simp⟩
      · intro L a W i o ho hpre hl ⟨vv, ha, HF⟩ K HK
        have hi : i < 12 := (Array.getElem?_eq_some_iff.1 ho).1
        subst ha
        have hcs : i = 0 ∨ i = 1 ∨ i = 2 ∨ i = 3 ∨ i = 4 ∨ i = 5 ∨ i = 6 ∨ i = 7 ∨ i = 8 ∨ i = 9 ∨ i = 10 ∨ i = 11 := by omega
        rcases hcs with rfl | rfl | rfl | rfl | rfl | rfl | rfl | rfl | rfl | rfl | rfl | rfl
        all_goals
          obtain rfl := Option.some.inj ho
          clear ho hi
        · clear hpre
          simp only [put3]
          go_simp
          exact HK.out _ _ ⟨fun j => if j = 0 then .slice A0 l.length c else vv j, by simp [put3, Act.put], ⟨HF.ext, (by simpa using HF.d10), (by simpa using HF.d11), (fun _ => rfl), (by simpa using HF.f1), (by simpa using HF.f2), (by simpa using HF.f3), (by simpa using HF.f4), (by simpa using HF.f5), (by simpa using HF.f6), (by simpa using HF.f7), (by simpa using HF.f8), (by simpa using HF.f9), (by simpa using HF.f10), (by simpa using HF.f11)⟩⟩
        · clear hpre
          simp only [put3]
          go_simp
          exact HK.out _ _ ⟨fun j => if j = 1 then .int .i64 k else vv j, by simp [put3, Act.put], ⟨HF.ext, (by simpa using HF.d10), (by simpa using HF.d11), (by simpa using HF.f0), (fun _ => rfl), (by simpa using HF.f2), (by simpa using HF.f3), (by simpa using HF.f4), (by simpa using HF.f5), (by simpa using HF.f6), (by simpa using HF.f7), (by simpa using HF.f8), (by simpa using HF.f9), (by simpa using HF.f10), (by simpa using HF.f11)⟩⟩
        · simp [Region.binds] at hpre
          have e0 := HF.f0 (by simp [hpre])
          have e1 := HF.f1 (by simp [hpre])
          have hkc : k ≤ c := by omega
          simp only [put3]
          go_simp
          exact HK.out _ _ ⟨fun j => if j = 2 then .slice A0 k c else vv j, by simp [put3, Act.put, e0, e1], ⟨HF.ext, (by simpa using HF.d10), (by simpa using HF.d11), (by simpa using HF.f0), (by simpa using HF.f1), (fun _ => by simpa using HA0.out.take hk), (by simpa using HF.f3), (by simpa using HF.f4), (by simpa using HF.f5), (by simpa using HF.f6), (by simpa using HF.f7), (by simpa using HF.f8), (by simpa using HF.f9), (by simpa using HF.f10), (by simpa using HF.f11)⟩⟩
        · simp [Region.binds] at hpre
          have r2 := HF.f2 (by simp [hpre])
          obtain ⟨A2, c2, e2, -, -⟩ := r2.form
          have r2' := r2.below HF.ext
          rw [e2] at r2'
          have HNIL : Hid (W.ownsRow w.heap.size 9 1 (.slice none 0 0) ([] : List Str).length (([] : List Str).map Value.string)) := own_nil
          rw [if_pos (by rfl)]
          refine app_row (t := 48) (e := 9) (size := 1) (bytes := 16) Tryz.underlying48 Tryz.info9 rfl (by decide) (.const (.slice none 0 0)) (.tmp 35) rfl w.heap.size (.slice none 0 0) ([] : List Str).length (([] : List Str).map Value.string) rfl HNIL.out A2 (l.take k).length c2 ((l.take k).map Value.string) ((put3_at rfl).1.trans e2) r2'.src (strs_one _) (by unfold maxLen; simp; omega) (by simp; omega) HF.ext.size (fun v' w' ho hg _ => ?_)
          have HB : Ext W w' := ⟨hg.os, hg.tape, hg.output, hg.size, fun j hj => hg.block j hj (by simp [Value.ownBlock])⟩
          exact HK.out _ _ ⟨fun j => if j = 3 then v' else vv j, by simp [put3, Act.put], ⟨HF.ext.tr HB, (by simpa using HF.d10), (by simpa using HF.d11), (by simpa using HF.f0), (by simpa using HF.f1), (by simpa using HF.f2), (fun _ _ => by simpa using ho), (by simpa using HF.f4), (fun h0 h1 => by obtain ⟨g, q1, q2⟩ := HF.f5 (by simpa using h0) (by simpa using h1); exact ⟨g, by simpa using q1, (HB.block _ (heap_lt q2)).trans q2⟩), (fun h0 h1 => own_below (HF.f6 (by simpa using h0) (by simpa using h1)) HB), (by simpa using HF.f7), (by simpa using HF.f8), (by simpa using HF.f9), (fun h0 => own_below (HF.f10 (by simpa using h0)) HB), (fun h0 => own_below (HF.f11 (by simpa using h0)) HB)⟩⟩
        · clear hpre
          simp only [put3]
          go_simp
          exact HK.out _ _ ⟨fun j => if j = 4 then .string s else vv j, by simp [put3, Act.put], ⟨HF.ext, (by simpa using HF.d10), (by simpa using HF.d11), (by simpa using HF.f0), (by simpa using HF.f1), (by simpa using HF.f2), (by simpa using HF.f3), (fun _ => rfl), (by simpa using HF.f5), (by simpa using HF.f6), (by simpa using HF.f7), (by simpa using HF.f8), (by simpa using HF.f9), (by simpa using HF.f10), (by simpa using HF.f11)⟩⟩
        · simp [Region.binds] at hpre
          have e4 := HF.f4 (by simp [hpre])
          have HB : Ext W (W.alloc (.cells #[.string s] 9)) := Ext.al _ _
          have hnw := heapNew W (.cells #[.string s] 9)
          simp only [put3]
          go_simp
          exact HK.out _ _ ⟨fun j => if j = 5 then .slice (some ⟨W.heap.size, 0, none⟩) 1 1 else vv j, by simp [put3, Act.put, e4], ⟨HF.ext.tr HB, (by simpa using HF.d10), (by simpa using HF.d11), (by simpa using HF.f0), (by simpa using HF.f1), (by simpa using HF.f2), (fun h0 h1 => own_below (HF.f3 (by simpa using h0) (by simpa using h1)) HB), (by simpa using HF.f4), (fun _ _ => ⟨_, rfl, hnw⟩), (fun h0 h1 => own_below (HF.f6 (by simpa using h0) (by simpa using h1)) HB), (by simpa using HF.f7), (by simpa using HF.f8), (by simpa using HF.f9), (fun h0 => own_below (HF.f10 (by simpa using h0)) HB), (fun h0 => own_below (HF.f11 (by simpa using h0)) HB)⟩⟩
        · simp [Region.binds] at hpre
          have o3 := HF.f3 (by simp [hpre]) hl
          obtain ⟨g, e5, hg5⟩ := HF.f5 (by simp [hpre]) hl
          rw [if_pos (by rfl)]
          refine app_row (t := 48) (e := 9) (size := 1) (bytes := 16) Tryz.underlying48 Tryz.info9 rfl (by decide) (.tmp 36) (.tmp 38) rfl w.heap.size (vv 3) (l.take k).length ((l.take k).map Value.string) (put3_at rfl).2.1 o3 (some ⟨g, 0, none⟩) ([s] : List Str).length 1 ([s].map Value.string) ((put3_at rfl).2.2.1.trans (show vv 5 = .slice (some ⟨g, 0, none⟩) ([s] : List Str).length 1 from e5)) (RStrs.src (RStrs.one hg5 HS.out)) (strs_one _) (by unfold maxLen; simp; omega) (by simp; omega) HF.ext.size (fun v' w' ho hg _ => ?_)
          have HB : Below w.heap.size W w' := grown_ext hg o3 HF.ext.size
          exact HK.out _ _ ⟨fun j => if j = 6 then v' else vv j, by simp [put3, Act.put], ⟨HF.ext.trans HB, (fun _ => by simp), (by simpa using HF.d11), (by simpa using HF.f0), (by simpa using HF.f1), (by simpa using HF.f2), (fun _ h1 => by simp at h1), (by simpa using HF.f4), (fun _ h1 => by simp at h1), (fun _ _ => by simpa using ho), (by simpa using HF.f7), (by simpa using HF.f8), (by simpa using HF.f9), (fun h0 => by have := HF.d10 (by simpa using h0); rw [hl] at this; cases this), (fun h0 => by have := HF.d10 (HF.d11 (by simpa using h0)); rw [hl] at this; cases this)⟩⟩
        · clear hpre
          simp only [put3]
          go_simp
          exact HK.out _ _ ⟨fun j => if j = 7 then .slice A0 l.length c else vv j, by simp [put3, Act.put], ⟨HF.ext, (by simpa using HF.d10), (by simpa using HF.d11), (by simpa using HF.f0), (by simpa using HF.f1), (by simpa using HF.f2), (by simpa using HF.f3), (by simpa using HF.f4), (by simpa using HF.f5), (by simpa using HF.f6), (fun _ => rfl), (by simpa using HF.f8), (by simpa using HF.f9), (by simpa using HF.f10), (by simpa using HF.f11)⟩⟩
        · clear hpre
          simp only [put3]
          go_simp
          exact HK.out _ _ ⟨fun j => if j = 8 then .int .i64 k else vv j, by simp [put3, Act.put], ⟨HF.ext, (by simpa using HF.d10), (by simpa using HF.d11), (by simpa using HF.f0), (by simpa using HF.f1), (by simpa using HF.f2), (by simpa using HF.f3), (by simpa using HF.f4), (by simpa using HF.f5), (by simpa using HF.f6), (by simpa using HF.f7), (fun _ => rfl), (by simpa using HF.f9), (by simpa using HF.f10), (by simpa using HF.f11)⟩⟩
        · simp [Region.binds] at hpre
          have e7 := HF.f7 (by simp [hpre])
          have e8 := HF.f8 (by simp [hpre])
          have hkc : k ≤ l.length := hk
          have HDR := Lib.hid (HA0.out.drop_any hk)
          simp only [put3]
          go_simp
          exact HK.out _ _ ⟨fun j => if j = 9 then .slice (if c = k then A0 else Option.map (fun x => x.add k) A0) (l.length - k) (c - k) else vv j, by simp [put3, Act.put, e7, e8], ⟨HF.ext, (by simpa using HF.d10), (by simpa using HF.d11), (by simpa using HF.f0), (by simpa using HF.f1), (by simpa using HF.f2), (by simpa using HF.f3), (by simpa using HF.f4), (by simpa using HF.f5), (by simpa using HF.f6), (by simpa using HF.f7), (by simpa using HF.f8), (fun _ => by simpa using HDR.out), (by simpa using HF.f10), (by simpa using HF.f11)⟩⟩
        · simp [Region.binds] at hpre
          have hpre6 : L 6 = true := by simp [hpre]
          have o6 := HF.f6 (by simp [hpre]) hl
          have r9 := HF.f9 (by simp [hpre])
          obtain ⟨A9, c9, e9, -, -⟩ := r9.form
          have r9' := r9.below HF.ext
          rw [e9] at r9'
          rw [if_pos (by rfl)]
          refine app_row (t := 48) (e := 9) (size := 1) (bytes := 16) Tryz.underlying48 Tryz.info9 rfl (by decide) (.tmp 39) (.tmp 42) rfl w.heap.size (vv 6) (l.take k ++ [s]).length ((l.take k ++ [s]).map Value.string) (put3_at rfl).2.2.2.1 o6 A9 (l.drop k).length c9 ((l.drop k).map Value.string) ((put3_at rfl).2.2.2.2.trans e9) r9'.src (strs_one _) (by unfold maxLen; simp; omega) (by simp; omega) HF.ext.size (fun v' w' ho hg _ => ?_)
          have HB : Below w.heap.size W w' := grown_ext hg o6 HF.ext.size
          exact HK.out _ _ ⟨fun j => if j = 10 then v' else vv j, by simp [put3, Act.put], ⟨HF.ext.trans HB, fun _ => by simp [hpre], (by simp), (by simpa using HF.f0), (by simpa using HF.f1), (by simpa using HF.f2), (fun _ h1 => by simp [hpre] at h1), (by simpa using HF.f4), (fun _ h1 => by simp [hpre] at h1), (fun _ h1 => by simp at h1), (by simpa using HF.f7), (by simpa using HF.f8), (by simpa using HF.f9), (fun _ => by have h0 := ho; rw [← List.length_append, ← List.map_append] at h0; simpa using h0), (fun h0 => by have := HF.d11 (by simpa using h0); rw [hl] at this; cases this)⟩⟩
        · simp [Region.binds] at hpre
          have o10 := HF.f10 (by simp [hpre])
          simp only [put3]
          go_simp
          exact HK.out _ _ ⟨fun j => if j = 11 then vv 10 else vv j, by simp [put3, Act.put], ⟨HF.ext, (by simpa using HF.d10), fun _ => by simp [hpre], (by simpa using HF.f0), (by simpa using HF.f1), (by simpa using HF.f2), (by simpa using HF.f3), (by simpa using HF.f4), (by simpa using HF.f5), (by simpa using HF.f6), (by simpa using HF.f7), (by simpa using HF.f8), (by simpa using HF.f9), (by simpa using HF.f10), (fun _ => by simpa using o10)⟩⟩
      · intro L a W hall ⟨vv, ha, HF⟩
        subst ha
        have o11 := HF.f11 (hall 11 (by decide))
        have HEX := Lib.hid HF.ext
        have HO := Lib.hid o11
        have HSZ : Hid (∀ x ∈ l, x.size ≤ maxLen) := RStrs.sizes HA0.out
        clear o11 HF hall
        simp only [put3]
        go_wp2
        go_ret
        have HRS : Hid (RStrs W (vv 11) (l.take k ++ [s] ++ l.drop k)) := own_strs HO.out (fun x hx => by
          rw [List.append_assoc] at hx
          rcases (ins_mem x).1 hx with h | h
          · exact HSZ.out x h
          · rw [h]; exact HS.out)
        have HSO : Hid (SortedS l → SortedS (l.take k ++ [s] ++ l.drop k)) := fun h => by rw [List.append_assoc]; exact ins_sorted HLOW.out HG.out h
        have HME : Hid (∀ j, j ∈ l.take k ++ [s] ++ l.drop k ↔ j ∈ l ∨ j = s) := fun j => by rw [List.append_assoc]; exact ins_mem j
        have HLE : Hid ((l.take k ++ [s] ++ l.drop k).length ≤ l.length + 1) := by show (l.take k ++ [s] ++ l.drop k).length ≤ l.length + 1; simp; omega
        generalize l.take k ++ [s] ++ l.drop k = R at *
        first | (exact ⟨_, rfl, R, HRS.out, HSO.out, HME.out, HLE.out, HEX.out⟩) | (refine ⟨_, R, rfl, ?_, HSO.out, HME.out, HLE.out, HEX.out⟩; simp [Act.put]; exact HRS.out)
end Go.Proofs.YtogmjgccopmplaaGreat

/- ref.go: what the search for free names has found so far. -/
namespace Go.Proofs.YtogmjgccopmplaaGreat
open Go.RowKit

/-- The accumulated variables: those given, and the free ones of the parts seen. -/
def AccV (la lv : List Str) (pre : List (Bnd × Tm)) (l : List Str) : Prop := ∀ k, k ∈ l ↔ k ∈ la ∨ (hasS lv k = false ∧ pre.any (fvK k) = true)
theorem AccV.zero (la lv : List Str) : AccV la lv [] la := fun k => by simp
theorem AccV.step {la lv l l' : List Str} {pre : List (Bnd × Tm)} {y : Bnd × Tm} (h : AccV la lv pre l) (h' : ∀ k, k ∈ l' ↔ k ∈ l ∨ (hasS (lv ++ vnames y.1) k = false ∧ fvT y.2 k = true)) : AccV la lv (pre ++ [y]) l' := fun k => by
  rw [h' k, h k, List.any_append, hasS_append]
  have e : fvK k y = (!hasS (vnames y.1) k && fvT y.2 k) := rfl
  simp only [List.any_cons, List.any_nil, Bool.or_false, e]
  cases hasS lv k <;> cases hasS (vnames y.1) k <;> cases fvT y.2 k <;> cases pre.any (fvK k) <;> simp
/-- The node itself, and all its parts. -/
theorem AccV.whole {la la1 lv l : List Str} {t : Tm} (h1 : ∀ k, k ∈ la1 ↔ k ∈ la ∨ (t.op = 0 ∧ hasS lv k = false ∧ k = t.nm)) (h : AccV la1 lv (kids t) l) : ∀ k, k ∈ l ↔ k ∈ la ∨ (hasS lv k = false ∧ fvT t k = true) := fun k => by
  rw [h k, h1 k, fvT_kids]
  have e : (k.toList == t.nm.toList) = eqS k t.nm := rfl
  rw [e, Bool.or_eq_true, Bool.and_eq_true, decide_eq_true_eq, eqS_iff]
  constructor
  · rintro ((h | ⟨h1, h2, h3⟩) | ⟨h1, h2⟩)
    · exact .inl h
    · exact .inr ⟨h2, .inl ⟨h1, h3⟩⟩
    · exact .inr ⟨h1, .inr h2⟩
  · rintro (h | ⟨h1, h2 | h2⟩)
    · exact .inl (.inl h)
    · exact .inl (.inr ⟨h2.1, h1, h2.2⟩)
    · exact .inr ⟨h1, h2⟩

/-- The accumulated labels: those given, and the free ones of the parts seen. -/
def AccL (la lv : List Str) (pre : List (Bnd × Tm)) (l : List Str) : Prop := ∀ k, k ∈ l ↔ k ∈ la ∨ (hasS lv k = false ∧ pre.any (flK k) = true)
theorem AccL.zero (la lv : List Str) : AccL la lv [] la := fun k => by simp
theorem AccL.step {la lv l l' : List Str} {pre : List (Bnd × Tm)} {y : Bnd × Tm} (h : AccL la lv pre l) (h' : ∀ k, k ∈ l' ↔ k ∈ l ∨ (hasS (lv ++ lnames y.1) k = false ∧ flT y.2 k = true)) : AccL la lv (pre ++ [y]) l' := fun k => by
  rw [h' k, h k, List.any_append, hasS_append]
  have e : flK k y = (!hasS (lnames y.1) k && flT y.2 k) := rfl
  simp only [List.any_cons, List.any_nil, Bool.or_false, e]
  cases hasS lv k <;> cases hasS (lnames y.1) k <;> cases flT y.2 k <;> cases pre.any (flK k) <;> simp
/-- The node itself, and all its parts. -/
theorem AccL.whole {la la1 lv l : List Str} {t : Tm} (h1 : ∀ k, k ∈ la1 ↔ k ∈ la ∨ (t.op = 12 ∧ hasS lv k = false ∧ k = t.nm)) (h : AccL la1 lv (kids t) l) : ∀ k, k ∈ l ↔ k ∈ la ∨ (hasS lv k = false ∧ flT t k = true) := fun k => by
  rw [h k, h1 k, flT_kids]
  have e : (k.toList == t.nm.toList) = eqS k t.nm := rfl
  rw [e, Bool.or_eq_true, Bool.and_eq_true, decide_eq_true_eq, eqS_iff]
  constructor
  · rintro ((h | ⟨h1, h2, h3⟩) | ⟨h1, h2⟩)
    · exact .inl h
    · exact .inr ⟨h2, .inl ⟨h1, h3⟩⟩
    · exact .inr ⟨h1, .inr h2⟩
  · rintro (h | ⟨h1, h2 | h2⟩)
    · exact .inl (.inl h)
    · exact .inl (.inr ⟨h2.1, h1, h2.2⟩)
    · exact .inr ⟨h1, h2⟩
end Go.Proofs.YtogmjgccopmplaaGreat
