/- The type of a term depends on the types of its free names only. -/
import Derived.Test.YtogmjgccopmplaaGreatQ36
import Derived.Deep.QuietTactic
import Derived.BigQuiet
import Derived.WalkSmall
import Derived.Deep.Cut
import Derived.Deep.DeepCutAuto
namespace Go.Proofs.YtogmjgccopmplaaGreat
open Go.RowKit
theorem find_cons {E E' : Env} {s k : Str} {y : Int} (h : ¬ (k.toList == s.toList) = true → findE E k = findE E' k) : findE ((s, y) :: E) k = findE ((s, y) :: E') k := by
  rw [findE, findE]
  cases hq : (s.toList == k.toList)
  · refine h (fun h2 => ?_)
    have h3 : k.toList = s.toList := by simpa using h2
    rw [h3] at hq; simp at hq
  · rfl
theorem find_bind : ∀ (ns : List Str) (ts : List Int) (E E' : Env) (k : Str), ns.length ≤ ts.length → (hasS ns k = false → findE E k = findE E' k) → findE (bindE ns ts E) k = findE (bindE ns ts E') k
  | [], ts, E, E', k, _, h => by simpa [bindE] using h rfl
  | s :: r, [], E, E', k, hl, _ => by simp at hl
  | s :: r, y :: q, E, E', k, hl, h => by
    rw [bindE, bindE]
    refine find_bind r q _ _ k (by simpa using hl) (fun hr => find_cons fun hk => h ?_)
    show ((k.toList == s.toList) || hasS r k) = false
    rw [hr, Bool.or_false]
    exact Bool.eq_false_iff.2 hk
theorem lnames_at (op : Int) (nm : Str) (i : Nat) : lnames (bndAt op nm i) = if op = 11 ∧ i = 0 then [nm] else [] := by
  by_cases h8 : op = 8 ∧ i = 1
  · obtain ⟨rfl, rfl⟩ := h8; rfl
  · unfold bndAt lnames
    rw [if_neg h8]
    by_cases h11 : op = 11 ∧ i = 0
    · rw [if_pos h11, if_pos h11]; rfl
    · rw [if_neg h11, if_neg h11]; rfl
mutual
theorem cgT (P : Pg) : ∀ (t : Tm) (V L : Scp) (E E' F F' : Env), validT P V L t = true → (∀ k, fvT t k = true → findE E k = findE E' k) → (∀ k, flT t k = true → findE F k = findE F' k) → tyT P E F t = tyT P E' F' t
  | .mk op n nm ty args cls, V, L, E, E', F, F', hv, h1, h2 => by
    rw [validT] at hv
    simp only [Bool.and_eq_true] at hv
    have hf := hv.1.1
    have hA := cgA P op nm ty args 0 V L E E' F F' hv.2.1 (fun k hk => h1 k (by rw [fvT]; simp [hk])) (fun k hk => h2 k (by rw [flT]; simp [hk]))
    have hC := cgC P args.length (declAt P ty).xtors cls V L E E' F F' hv.2.2 (fun j c hj => by
      obtain ⟨u, d, x, hty, hd, hda, hx, hcx⟩ := fits_clause hf hj
      have hda : declAt P ty = d := hda
      rw [hda, List.getD_eq_getElem?_getD, hx, hcx]; exact Nat.le_refl _) (fun k hk => h1 k (by rw [fvT]; simp [hk])) (fun k hk => h2 k (by rw [flT]; simp [hk]))
    have hr : ∀ ps, ruleS P E F op n nm ty ps = ruleS P E' F' op n nm ty ps := fun ps => by
      obtain ⟨o, ho, ho2⟩ := fits_op hf
      have ho : op = o := ho
      unfold ruleS
      by_cases h0 : op = 0
      · rw [if_pos h0, if_pos h0, h1 nm (by rw [fvT]; simp [h0])]
      · by_cases h12 : op = 12
        · rw [h2 nm (by rw [flT]; simp [h12])]
          simp [h12]
        · have : op = 1 ∨ op = 2 ∨ op = 3 ∨ op = 4 ∨ op = 5 ∨ op = 6 ∨ op = 7 ∨ op = 8 ∨ op = 9 ∨ op = 10 ∨ op = 11 := by omega
          rcases this with h | h | h | h | h | h | h | h | h | h | h <;> simp [h]
    rw [tyT, tyT, hA, hC]
    simp only [hr]
theorem cgA (P : Pg) (op : Int) (nm : Str) (ty : Int) : ∀ (l : List Tm) (i : Nat) (V L : Scp) (E E' F F' : Env), validA P op nm V L i l = true → (∀ k, fvA op nm i l k = true → findE E k = findE E' k) → (∀ k, flA op nm i l k = true → findE F k = findE F' k) → tyA P op nm ty E F i l = tyA P op nm ty E' F' i l
  | [], i, V, L, E, E', F, F', hv, h1, h2 => by rw [tyA, tyA]
  | a :: r, i, V, L, E, E', F, F', hv, h1, h2 => by
    rw [validA] at hv
    simp only [Bool.and_eq_true] at hv
    have hT := cgT P a _ _ (argV op nm ty i E) (argV op nm ty i E') (argL op nm ty F) (argL op nm ty F') hv.1.2 (fun k hk => by
      unfold argV
      by_cases h8 : op = 8 ∧ i = 1
      · rw [if_pos h8, if_pos h8]
        refine find_cons fun hn => h1 k ?_
        rw [fvA, hk]
        have : hasS (vnames (bndAt op nm i)) k = false := by
          unfold bndAt vnames
          rw [if_pos h8]
          simpa [hasS] using hn
        rw [this]; rfl
      · rw [if_neg h8, if_neg h8]
        refine h1 k ?_
        rw [fvA, hk]
        have : hasS (vnames (bndAt op nm i)) k = false := by
          unfold bndAt vnames
          rw [if_neg h8]
          by_cases h11 : op = 11 ∧ i = 0
          · rw [if_pos h11]; rfl
          · rw [if_neg h11]; rfl
        rw [this]; rfl) (fun k hk => by
      unfold argL
      by_cases h11 : op = 11
      · rw [if_pos h11, if_pos h11]
        refine find_cons fun hn => h2 k ?_
        rw [flA, hk]
        have : hasS (lnames (bndAt op nm i)) k = false := by
          rw [lnames_at]
          by_cases h0 : op = 11 ∧ i = 0
          · rw [if_pos h0]
            simpa [hasS] using hn
          · rw [if_neg h0]; rfl
        rw [this]; rfl
      · rw [if_neg h11, if_neg h11]
        refine h2 k ?_
        rw [flA, hk]
        have : hasS (lnames (bndAt op nm i)) k = false := by
          rw [lnames_at, if_neg (fun h => h11 h.1)]; rfl
        rw [this]; rfl)
    have hA := cgA P op nm ty r (i + 1) V L E E' F F' hv.2 (fun k hk => h1 k (by rw [fvA, hk, Bool.or_true])) (fun k hk => h2 k (by rw [flA, hk, Bool.or_true]))
    rw [tyA, tyA, hT, hA]
theorem cgC (P : Pg) : ∀ (i : Nat) (xs : List Xtor) (cls : List (List Str × Tm)) (V L : Scp) (E E' F F' : Env), validC P V L cls = true → (∀ j c, cls[j]? = some c → c.1.length ≤ (prodL (xs.getD j noXtor)).length) → (∀ k, fvC cls k = true → findE E k = findE E' k) → (∀ k, flC cls k = true → findE F k = findE F' k) → tyC P E F i xs cls = tyC P E' F' i xs cls
  | i, xs, [], V, L, E, E', F, F', hv, hl, h1, h2 => by rw [tyC, tyC]
  | i, xs, (ns, t) :: r, V, L, E, E', F, F', hv, hl, h1, h2 => by
    rw [validC] at hv
    simp only [Bool.and_eq_true] at hv
    have hn : ns.length ≤ (prodL (xs.headD noXtor)).length := by
      have := hl 0 (ns, t) rfl
      cases xs <;> simpa using this
    have hT := cgT P t _ _ (bindE ns (prodL (xs.headD noXtor)) E) (bindE ns (prodL (xs.headD noXtor)) E') F F' hv.1.2 (fun k hk => find_bind _ _ _ _ k hn (fun hb => h1 k (by rw [fvC, hb, hk]; rfl))) (fun k hk => h2 k (by rw [flC, hk]; rfl))
    have hC := cgC P (i + 1) xs.tail r V L E E' F F' hv.2 (fun j c hj => by
      have := hl (j + 1) c (by simpa using hj)
      cases xs <;> simpa using this) (fun k hk => h1 k (by rw [fvC, hk, Bool.or_true])) (fun k hk => h2 k (by rw [flC, hk, Bool.or_true]))
    rw [tyC, tyC, hT, hC]
end
end Go.Proofs.YtogmjgccopmplaaGreat

/- What check.Type returns, with the reference's scopes. -/
namespace Go.Proofs.YtogmjgccopmplaaGreat
open Go.RowKit
theorem given_fold (l : List Prm) (k : Str) : ∀ (us : List Str) (E : Env), (k ∈ us ∨ findE E k = some (lastL l k)) → findE (us.foldl (fun E s => (s, lastL l s) :: E) E) k = some (lastL l k)
  | [], E, h => by
    rcases h with h | h
    · cases h
    · exact h
  | s :: r, E, h => by
    rw [List.foldl_cons]
    refine given_fold l k r _ ?_
    by_cases hs : eqS s k = true
    · right
      have e : s = k := eqS_iff.1 hs
      subst e
      rw [findE, if_pos (by simp)]
    · rcases h with h | h
      · rcases List.mem_cons.1 h with e | h
        · subst e; exact absurd (eqS_iff.2 rfl) hs
        · exact .inl h
      · right
        rw [findE, if_neg (by exact hs)]
        exact h
theorem given_find {l : List Prm} {us : List Str} {k : Str} (h : k ∈ us) : findE (givenL l us) k = some (lastL l k) := given_fold l k us [] (.inl h)
theorem link_fold (k : Str) : ∀ (l : List Prm) (E : Env) (f : Str → Int), ((∃ a ∈ l, eqS k a.nm = true) ∨ findE E k = some (f k)) → findE (l.foldl (fun E a => (a.nm, a.ty) :: E) E) k = some ((l.foldl (fun f a => fun x => if eqS x a.nm then a.ty else f x) f) k)
  | [], E, f, h => by
    rcases h with ⟨a, ha, _⟩ | h
    · cases ha
    · exact h
  | b :: r, E, f, h => by
    rw [List.foldl_cons, List.foldl_cons]
    refine link_fold k r _ _ ?_
    by_cases hs : eqS k b.nm = true
    · right
      have e : k = b.nm := eqS_iff.1 hs
      rw [findE, if_pos (by rw [e]; simp)]
      show some b.ty = some (if eqS k b.nm = true then b.ty else f k)
      rw [if_pos hs]
    · rcases h with ⟨a, ha, h⟩ | h
      · rcases List.mem_cons.1 ha with e | ha
        · subst e; exact absurd h hs
        · exact .inl ⟨a, ha, h⟩
      · right
        rw [findE, if_neg (show ¬ ((b.nm.toList == k.toList) = true) from fun h2 => hs (eqS_iff.2 (eqS_iff.1 (show eqS b.nm k = true from h2)).symm))]
        show findE E k = some (if eqS k b.nm = true then b.ty else f k)
        rw [if_neg hs]; exact h
theorem link_find {l : List Prm} {k : Str} (h : hasS (l.map Prm.nm) k = true) : findE (linkL l) k = some (lastL l k) := link_fold k l [] (fun _ => 0) (.inl (hasS_prm.1 h))
section
variable {P : Pg} {vs ls : List Prm} {fv fl : List Str} {t : Tm} {e : Ending}
theorem GoodQ.given (h : GoodQ P vs ls t) (hf : FVs t fv fl) : tyT P (givenL vs fv) (givenL ls fl) t = tyT P (linkL vs) (linkL ls) t := by
  have hfree := valid_free P _ t _ _ (Nat.le_refl _) h.valid
  exact cgT P t _ _ _ _ _ _ h.valid (fun k hk => by rw [given_find ((hf.m1 k).2 hk), link_find (hfree.1 k hk)]) (fun k hk => by rw [given_find ((hf.m2 k).2 hk), link_find (hfree.2 k hk)])
theorem GoodQ.scope (h : GoodQ P vs ls t) : VldS P (linkL vs) (linkL ls) t := ⟨_, _, h.valid, found_link' vs, found_link' ls⟩
where found_link' (ps : List Prm) : Found (linkL ps) (hasS (ps.map Prm.nm)) := fun _ hk => ⟨_, link_find hk⟩
theorem TypeR.link (h : TypeR P vs ls t e) (hg : GoodQ P vs ls t) : e = .returned (match tyT P (linkL vs) (linkL ls) t with | .inr y => .tuple #[.int .i64 y, .int .i64 0] | .inl _ => .tuple #[.int .i64 0, .int .i64 40]) := by
  unfold TypeR at h
  rw [if_neg (by rw [hg.prog]; simp), if_pos ⟨hg.term, hg.hv, hg.hl⟩] at h
  obtain ⟨gv, gl, h1, h2, h3, h4, rfl⟩ := h
  rw [hg.given ⟨h1, h2, h3, h4⟩]
  cases tyT P (linkL vs) (linkL ls) t <;> rfl
theorem TypeR.bad (h : TypeR P vs ls t e) (hp : progB P = true) (hg : ¬ GoodQ P vs ls t) : e = .returned (.tuple #[.int .i64 0, .int .i64 1]) := by
  unfold TypeR at h
  rw [if_neg (by rw [hp]; simp)] at h
  rw [if_neg (fun hq => hg (GoodQ.of hp hq.1 hq.2.1 hq.2.2))] at h
  exact h
end
end Go.Proofs.YtogmjgccopmplaaGreat

/- The names of parameters, many of them. -/
namespace Go.Proofs.YtogmjgccopmplaaGreat
open Go.RowKit
set_option maxHeartbeats 4000000 in
set_option maxRecDepth 100000 in
theorem ParamsB_any (v : Value) (l : List Prm) (w : World) (h : RPrms w v l) (hl : l.length ≤ 2200000) :
    Calls Tryz.prog 19 #[v] w fun e w' => ∃ v', e = .returned v' ∧ RStrs w' v' (l.map Prm.nm) ∧ Ext w w' := by
  have H := Lib.hid h
  obtain ⟨A, c, rfl, hc, hm⟩ := h.form
  clear h
  unfold maxLen at hm
  go_enter Tryz.func19, Tryz.ntmps19
  go_wp2
  go_loopw [3, 8] (fun s i wr => ∃ (j : Nat), j ≤ l.length ∧ i = .int .i64 j ∧ wr.ownsRow w.heap.size 9 1 s (l.take j).length (((l.take j).map Prm.nm).map Value.string) ∧ Ext w wr) (fun _ i _ => l.length - (intOf i).toNat)
  case atStart => exact ⟨0, Nat.zero_le _, rfl, ⟨by simp, .inl ⟨rfl, by simp⟩⟩, Ext.rf _⟩
  case round =>
    obtain ⟨j, hj, rfl, ho, hb⟩ := hrel
    have HO := Lib.hid ho
    have HX := Lib.hid hb
    clear ho hb
    by_cases hlt : j < l.length
    · obtain ⟨b, o, rfl, hbl, y0, y1, hs⟩ := H.out.at_ hlt
      have y0 := HX.out.keep y0
      have y1 := HX.out.keep y1
      have HTK : Hid (l.take (j + 1) = l.take j ++ [l[j]]) := List.take_succ_eq_append_getElem hlt
      generalize l[j] = x at *
      obtain ⟨nm, ty⟩ := x
      dsimp only at *
      have HE8 := Lib.hid (Ext.al2 wr (.cells #[.string nm, .int .i64 ty] 74) (.cells #[.string nm] 9))
      have hn8 := heapNew (wr.alloc (.cells #[.string nm, .int .i64 ty] 74)) (.cells #[.string nm] 9)
      rw [World.size_alloc] at hn8
      have HSO : Hid (SrcN _ (some ⟨wr.heap.size + 1, 0, none⟩) 1 1 [.string nm]) := .inr ⟨_, rfl, rfl, fun i u hu => by
        have hi : i < 1 := (List.getElem?_eq_some_iff.1 hu).1
        match i, hi with
        | 0, _ => rw [add_at]; exact cellAt hn8 0 hu⟩
      clear hn8
      go_wp2_with (at_builtin; refine app_vals Tryz.underlying48 Tryz.info9 rfl (by decide) (by decide) rfl _ _ rfl w.heap.size _ (l.take j).length (((l.take j).map Prm.nm).map Value.string) rfl (own_below HO.out HE8.out) (some ⟨wr.heap.size + 1, 0, none⟩) 1 1 [.string nm] rfl HSO.out (fun u hu => by rw [List.mem_singleton.1 hu]; rfl) (by simp; omega) (Nat.le_trans HX.out.size HE8.out.size) ?_)
      intro v9 w9 ho9 hg9
      have HX9 : Hid (Ext w w9) := (HX.out.tr HE8.out).trans (grown_ext' hg9 (own_below HO.out HE8.out) (Nat.le_trans HX.out.size HE8.out.size))
      have HO9 : Hid (w9.ownsRow w.heap.size 9 1 v9 (l.take (j + 1)).length (((l.take (j + 1)).map Prm.nm).map Value.string)) := by
        show World.ownsRow _ _ _ _ _ _ _
        have e1 : (l.take (j + 1)).length = j + 1 := by simp; omega
        have e2 : ((l.take (j + 1)).map Prm.nm).map Value.string = List.take j (List.map (Value.string ∘ Prm.nm) l) ++ [.string nm] := by rw [HTK.out]; simp [List.map_take]
        rw [e1, e2]; exact ho9
      clear ho9 hg9 y0 y1
      go_wp2
      exact ⟨⟨j + 1, by omega, by go_num, HO9.out, HX9.out⟩, by simp [intOf]; omega⟩
    · have HV : Hid (RStrs wr u3 (l.map Prm.nm)) := by
        have h1 := HO.out
        rw [List.take_of_length_le (by omega)] at h1
        rw [← List.length_map (f := Prm.nm)] at h1
        exact own_strs h1 (fun s hs => by
          obtain ⟨x, hx, rfl⟩ := List.mem_map.1 hs
          obtain ⟨i, hi, rfl⟩ := List.getElem_of_mem hx
          obtain ⟨_, _, _, _, _, _, q⟩ := H.out.at_ hi
          exact q)
      go_wp2
      go_ret
      exact ⟨_, rfl, HV.out, HX.out⟩
end Go.Proofs.YtogmjgccopmplaaGreat

/- ref.go: left, Fits. -/
namespace Go.Proofs.YtogmjgccopmplaaGreat
open Go.RowKit
set_option maxHeartbeats 2000000 in
set_option maxRecDepth 100000 in
theorem left_any : ∀ (k : Nat) (t : Tm) (va vc : Value) (n : Int) (w : World), RT w k t va vc → -1000000000000 ≤ n → n ≤ 1000000000000 →
    Calls Tryz.prog 38 #[tV t va vc, .int .i64 n] w fun e w' => ∃ r : Int, e = .returned (.int .i64 r) ∧ 0 ≤ r ∧ r ≤ 1000000000000 ∧ Ext w w' := by
  intro k
  induction k with
  | zero => intro t va vc n w ht; exact ht.elim
  | succ k ih =>
    intro t va vc n w ht hn0 hn1
    have HT := Lib.hid ht; have HIH := Lib.hid ih
    obtain ⟨_, ⟨Aa, ca, rfl, hca, hma⟩, ⟨Bb, cb, rfl, hcb, hmb⟩⟩ := ht.form
    clear ht ih
    unfold maxLen at hma hmb
    have HE := Lib.hid (Ext.al w (.cells #[.int .i64 t.op, .int .i64 t.n, .string t.nm, .int .i64 t.ty, .slice Aa t.args.length ca, .slice Bb t.cls.length cb] 41))
    have HB := Lib.hid (heapNew w (.cells #[.int .i64 t.op, .int .i64 t.n, .string t.nm, .int .i64 t.ty, .slice Aa t.args.length ca, .slice Bb t.cls.length cb] 41))
    go_enter Tryz.func38, Tryz.ntmps38
    go_wp2
    generalize w.alloc _ = w1 at *
    go_loopw [1, 5] (fun s i wr => ∃ (j : Nat) (m : Int), j ≤ t.args.length ∧ i = .int .i64 j ∧ s = .int .i64 m ∧ -1000000000001 ≤ m ∧ m ≤ 1000000000000 ∧ Ext w1 wr) (fun _ i _ => t.args.length - (intOf i).toNat)
    case atStart => exact ⟨0, n - 1, Nat.zero_le _, rfl, by go_num, by omega, by omega, Ext.rf _⟩
    case round =>
      obtain ⟨j, m, hj, rfl, rfl, hm0, hm1, hb⟩ := hrel
      have HX := Lib.hid hb
      have b0 := (hb.block _ (heap_lt HB.out)).trans HB.out
      have HBB := Lib.hid b0
      have c4 := cellAt b0 4
      have c5 := cellAt b0 5
      clear hb b0
      by_cases hlt : j < t.args.length
      · obtain ⟨b, o, xa, xc, rfl, hbl, yc, yt⟩ := HT.out.arg hlt
        have yc := yc.below (HE.out.tr HX.out)
        have c30 := yc.c0
        have c31 := yc.c1
        have c32 := yc.c2
        have c33 := yc.c3
        have c34 := yc.c4
        have c35 := yc.c5
        have HK := Lib.hid (yt.below (HE.out.tr HX.out))
        generalize t.args[j] = x at *
        clear yc yt
        by_cases hpos : 0 < m
        · go_wp2_with (go_at_call 38; (with_reducible refine (HIH.out x _ _ m _ HK.out (by omega) (by omega)).mono ?_); rintro e w5 ⟨r, rfl, hr0, hr1, hb5⟩)
          exact ⟨⟨j + 1, r, by omega, by go_num, rfl, by omega, by omega, HX.out.tr hb5⟩, by simp [intOf]; omega⟩
        · go_wp2
          clear HK c30 c31 c32 c33 c34 c35
          go_loopw [1, 6] (fun s i wq => ∃ (j2 : Nat) (m2 : Int), j2 ≤ t.cls.length ∧ i = .int .i64 j2 ∧ s = .int .i64 m2 ∧ -1000000000001 ≤ m2 ∧ m2 ≤ 1000000000000 ∧ Ext wr wq) (fun _ i _ => t.cls.length - (intOf i).toNat)
          case atStart => exact ⟨0, m, Nat.zero_le _, rfl, rfl, by omega, by omega, Ext.rf _⟩
          case round =>
            obtain ⟨j2, m2, hj2, rfl, rfl, hm20, hm21, hb2⟩ := hrel
            have HX2 := Lib.hid (HX.out.tr hb2)
            have HXE := Lib.hid hb2
            have b2 := (hb2.block _ (heap_lt HBB.out)).trans HBB.out
            clear c4 c5
            have c4 := cellAt b2 4
            have c5 := cellAt b2 5
            clear hb2 b2
            by_cases hlt2 : j2 < t.cls.length
            · obtain ⟨b', o', vn', xa', xc', rfl, hbl', yn', ys', yc', yt'⟩ := HT.out.clause hlt2
              have yc' := yc'.below (HE.out.tr HX2.out)
              have d0 := yc'.c0
              have d1 := yc'.c1
              have d2 := yc'.c2
              have d3 := yc'.c3
              have d4 := yc'.c4
              have d5 := yc'.c5
              have HK2 := Lib.hid (yt'.below (HE.out.tr HX2.out))
              generalize t.cls[j2] = cl at *
              obtain ⟨ns, y⟩ := cl
              dsimp only at *
              clear yc' yt' yn' ys'
              by_cases hpos2 : 0 < m2
              · go_wp2_with (go_at_call 38; (with_reducible refine (HIH.out y _ _ m2 _ HK2.out (by omega) (by omega)).mono ?_); rintro e w6 ⟨r2, rfl, hr20, hr21, hb6⟩)
                exact ⟨⟨j2 + 1, r2, by omega, by go_num, rfl, by omega, by omega, HXE.out.tr hb6⟩, by simp [intOf]; omega⟩
              · go_wp2
                go_ret
                exact ⟨_, rfl, by omega, by omega, HE.out.tr HX2.out⟩
            · go_wp2
              go_ret
              exact ⟨_, rfl, by omega, by omega, HE.out.tr HX2.out⟩
      · go_wp2
        go_loopw [1, 6] (fun s i wq => ∃ (j2 : Nat) (m2 : Int), j2 ≤ t.cls.length ∧ i = .int .i64 j2 ∧ s = .int .i64 m2 ∧ -1000000000001 ≤ m2 ∧ m2 ≤ 1000000000000 ∧ Ext wr wq) (fun _ i _ => t.cls.length - (intOf i).toNat)
        case atStart => exact ⟨0, m, Nat.zero_le _, rfl, rfl, by omega, by omega, Ext.rf _⟩
        case round =>
          obtain ⟨j2, m2, hj2, rfl, rfl, hm20, hm21, hb2⟩ := hrel
          have HX2 := Lib.hid (HX.out.tr hb2)
          have HXE := Lib.hid hb2
          have b2 := (hb2.block _ (heap_lt HBB.out)).trans HBB.out
          clear c4 c5
          have c4 := cellAt b2 4
          have c5 := cellAt b2 5
          clear hb2 b2
          by_cases hlt2 : j2 < t.cls.length
          · obtain ⟨b', o', vn', xa', xc', rfl, hbl', yn', ys', yc', yt'⟩ := HT.out.clause hlt2
            have yc' := yc'.below (HE.out.tr HX2.out)
            have d0 := yc'.c0
            have d1 := yc'.c1
            have d2 := yc'.c2
            have d3 := yc'.c3
            have d4 := yc'.c4
            have d5 := yc'.c5
            have HK2 := Lib.hid (yt'.below (HE.out.tr HX2.out))
            generalize t.cls[j2] = cl at *
            obtain ⟨ns, y⟩ := cl
            dsimp only at *
            clear yc' yt' yn' ys'
            by_cases hpos2 : 0 < m2
            · go_wp2_with (go_at_call 38; (with_reducible refine (HIH.out y _ _ m2 _ HK2.out (by omega) (by omega)).mono ?_); rintro e w6 ⟨r2, rfl, hr20, hr21, hb6⟩)
              exact ⟨⟨j2 + 1, r2, by omega, by go_num, rfl, by omega, by omega, HXE.out.tr hb6⟩, by simp [intOf]; omega⟩
            · go_wp2
              go_ret
              exact ⟨_, rfl, by omega, by omega, HE.out.tr HX2.out⟩
          · go_wp2
            go_ret
            exact ⟨_, rfl, by omega, by omega, HE.out.tr HX2.out⟩
set_option maxHeartbeats 1000000 in
set_option maxRecDepth 100000 in
theorem Fits_any (k : Nat) (t : Tm) (va vc : Value) (n : Int) (w : World) (ht : RT w k t va vc) (hn0 : 0 ≤ n) (hn1 : n ≤ 1000000000) :
    Calls Tryz.prog 14 #[tV t va vc, .int .i64 n] w fun e w' => ∃ q : Bool, e = .returned (.bool q) ∧ Ext w w' := by
  have HT := Lib.hid ht
  obtain ⟨_, ⟨Aa, ca, rfl, hca, hma⟩, ⟨Bb, cb, rfl, hcb, hmb⟩⟩ := ht.form
  clear ht
  have HE := Lib.hid (Ext.al w (.cells #[.int .i64 t.op, .int .i64 t.n, .string t.nm, .int .i64 t.ty, .slice Aa t.args.length ca, .slice Bb t.cls.length cb] 41))
  have HB := Lib.hid (heapNew w (.cells #[.int .i64 t.op, .int .i64 t.n, .string t.nm, .int .i64 t.ty, .slice Aa t.args.length ca, .slice Bb t.cls.length cb] 41))
  go_enter Tryz.func14, Tryz.ntmps14
  go_wp2_with fail
  generalize w.alloc _ = w1 at *
  (with_reducible refine (left_any k t _ _ (n + 1) _ (HT.out.below HE.out) (by omega) (by omega)).mono ?_)
  rintro e w2 ⟨r, rfl, h0, h1, hb⟩
  have HX := Lib.hid (HE.out.tr hb)
  clear hb
  go_wp2
  go_ret
  exact ⟨_, rfl, HX.out⟩
end Go.Proofs.YtogmjgccopmplaaGreat

/- ref.go: Few. -/
namespace Go.Proofs.YtogmjgccopmplaaGreat
open Go.RowKit
set_option maxHeartbeats 2000000 in
set_option maxRecDepth 100000 in
theorem Few_any (P : Pg) (vd vf : Value) (n : Int) (w : World) (hd : RDecls w vd P.decls) (hf : RFns w vf P.funs) (hn0 : 0 ≤ n) (hn1 : n ≤ 1000000000) :
    Calls Tryz.prog 7 #[pV vd vf, .int .i64 n] w fun e w' => ∃ q : Bool, e = .returned (.bool q) ∧ Ext w w' := by
  have HF := Lib.hid hf
  obtain ⟨Ad, cd, rfl, hcd, hmd⟩ := hd.form
  obtain ⟨Af, cf, rfl, hcf, hmf⟩ := hf.form
  clear hd hf
  unfold maxLen at hmf hmd
  have HE := Lib.hid (Ext.al w (.cells #[.slice Ad P.decls.length cd, .slice Af P.funs.length cf] 25))
  have HB := Lib.hid (heapNew w (.cells #[.slice Ad P.decls.length cd, .slice Af P.funs.length cf] 25))
  have c0 := cellAt HB.out 0
  have c1 := cellAt HB.out 1
  go_enter Tryz.func7, Tryz.ntmps7
  by_cases hd : (40 : Int) < P.decls.length
  · go_wp2
    go_ret
    first | exact ⟨_, rfl, HE.out⟩ | exact ⟨.inl rfl, HE.out⟩ | exact ⟨.inr rfl, HE.out⟩
  by_cases hf : (40 : Int) < P.funs.length
  · go_wp2
    go_ret
    first | exact ⟨_, rfl, HE.out⟩ | exact ⟨.inl rfl, HE.out⟩ | exact ⟨.inr rfl, HE.out⟩
  go_wp2
  generalize w.alloc _ = w1 at *
  clear c0 c1
  go_loopw [20] (fun i wr => ∃ j : Nat, j ≤ P.funs.length ∧ i = .int .i64 j ∧ Ext w1 wr) (fun i _ => P.funs.length - (intOf i).toNat)
  case atStart => exact ⟨0, Nat.zero_le _, rfl, Ext.rf _⟩
  case round =>
    obtain ⟨j, hj, rfl, hb⟩ := hrel
    have HX := Lib.hid hb
    clear hb
    by_cases hlt : j < P.funs.length
    · obtain ⟨b, o, vp, xa, xc, kf, rfl, hbl, y0, y1, y2, yc, y3, y4, y5⟩ := HF.out.at_ hlt
      have hX := HE.out.tr HX.out
      have y0 := hX.keep y0
      have y1 := hX.keep y1
      have y2 := hX.keep y2
      have yc := yc.below hX
      obtain ⟨Ap, cp, rfl, -, -⟩ := y4.form
      obtain ⟨_, ⟨Aa, ca, rfl, -, -⟩, ⟨Bb, cb, rfl, -, -⟩⟩ := y5.form
      have HK := Lib.hid (y5.below hX)
      have c30 := yc.c0
      have c31 := yc.c1
      have c32 := yc.c2
      have c33 := yc.c3
      have c34 := yc.c4
      have c35 := yc.c5
      generalize P.funs[j] = f at *
      clear y3 y4 y5 yc hX
      have HE8 := Lib.hid (Ext.al wr (.cells #[.string f.nm, .slice Ap f.ps.length cp, .int .i64 f.res, .int .i64 f.body.op, .int .i64 f.body.n, .string f.body.nm, .int .i64 f.body.ty, .slice Aa f.body.args.length ca, .slice Bb f.body.cls.length cb] 64))
      go_wp2_with fail
      (with_reducible refine (Fits_any _ _ _ _ _ _ (HK.out.below HE8.out) hn0 hn1).mono ?_)
      rintro e w5 ⟨q, rfl, hb⟩
      have HX5 := Lib.hid ((HX.out.tr HE8.out).tr hb)
      clear hb c30 c31 c32 c33 c34 c35 y0 y1 y2
      cases q
      · go_wp2
        go_ret
        first | exact ⟨_, rfl, HE.out.tr HX5.out⟩ | exact ⟨.inl rfl, HE.out.tr HX5.out⟩ | exact ⟨.inr rfl, HE.out.tr HX5.out⟩
      · go_wp2
        exact ⟨⟨j + 1, by omega, by go_num, HX5.out⟩, by simp [intOf]; omega⟩
    · go_wp2
      go_ret
      first | exact ⟨_, rfl, HE.out.tr HX.out⟩ | exact ⟨.inl rfl, HE.out.tr HX.out⟩ | exact ⟨.inr rfl, HE.out.tr HX.out⟩
end Go.Proofs.YtogmjgccopmplaaGreat

/- ref.go: free. -/
namespace Go.Proofs.YtogmjgccopmplaaGreat
open Go.RowKit
end Go.Proofs.YtogmjgccopmplaaGreat

/- ref.go: Free. -/
namespace Go.Proofs.YtogmjgccopmplaaGreat
open Go.RowKit
end Go.Proofs.YtogmjgccopmplaaGreat

/- law.go: TermOwn: two copies into two boxes, in any order. -/
namespace Go.Proofs.YtogmjgccopmplaaGreat
open Go.RowKit
def pmask (p : Nat → Bool) (w : World) : World := { w with heap := w.heap.mapIdx fun i o => if p i then o else .cells #[] 0 (0, 0) }
theorem pm_size (p : Nat → Bool) (w : World) : (pmask p w).heap.size = w.heap.size := Array.size_mapIdx ..
theorem pm_in {p : Nat → Bool} {w : World} {k : Nat} (h : p k = true) : (pmask p w).heap[k]? = w.heap[k]? := by
  show (w.heap.mapIdx _)[k]? = _
  rw [Array.getElem?_mapIdx]
  simp only [h, if_true]
  cases w.heap[k]? <;> rfl
theorem pm_cell {p : Nat → Bool} {w : World} {q : Addr} {v : Value} (h : (pmask p w).cell? q = some v) : p q.block = true ∧ w.cell? q = some v := by
  cases hk : p q.block
  · exfalso
    unfold World.cell? at h
    have e : (pmask p w).heap[q.block]? = w.heap[q.block]?.map fun _ => .cells #[] 0 (0, 0) := by
      show (w.heap.mapIdx _)[q.block]? = _
      rw [Array.getElem?_mapIdx]
      simp only [hk, Bool.false_eq_true, if_false]
    rw [e] at h
    cases hw : w.heap[q.block]? with
    | none => rw [hw] at h; cases h
    | some o => rw [hw] at h; simp at h
  · exact ⟨rfl, by rw [← World.cell?_of_block (pm_in hk)]; exact h⟩
/-- Nothing but two boxes is hidden. -/
def hh (g g' : Option Nat) (k : Nat) : Bool := decide (some k ≠ g) && decide (some k ≠ g')
def HH (g g' : Option Nat) (W : World) : World := pmask (hh g g') W
theorem hh_iff {g g' : Option Nat} {k : Nat} : hh g g' k = true ↔ some k ≠ g ∧ some k ≠ g' := by unfold hh; simp
theorem HH.cell {g g' : Option Nat} {W : World} {p : Addr} {v : Value} (h : (HH g g' W).cell? p = some v) : (some p.block ≠ g ∧ some p.block ≠ g') ∧ W.cell? p = some v := by
  obtain ⟨h1, h2⟩ := pm_cell h
  exact ⟨hh_iff.1 h1, h2⟩
theorem HH.un (g g' : Option Nat) (W : World) : Sub (HH g g' W) W := ⟨Nat.le_of_eq (pm_size _ _), fun _ _ h => (HH.cell h).2⟩
theorem Sub.hh {X W' : World} {g g' : Option Nat} (hs : X.heap.size ≤ W'.heap.size) (h : ∀ p v, X.cell? p = some v → (some p.block ≠ g ∧ some p.block ≠ g') ∧ W'.cell? p = some v) : Sub X (HH g g' W') := by
  refine ⟨by unfold HH; rw [pm_size]; exact hs, fun p v e => ?_⟩
  obtain ⟨h1, h2⟩ := h p v e
  exact (World.cell?_of_block (pm_in (hh_iff.2 h1))).trans h2
theorem HH.ext {g g' : Option Nat} {W W' : World} (hb : Ext W W') : Sub (HH g g' W) (HH g g' W') :=
  Sub.hh (by unfold HH; rw [pm_size]; exact hb.size) fun p v e => ⟨(HH.cell e).1, hb.keep (HH.cell e).2⟩
theorem HH.of_mask {B : Nat} {g g' : Option Nat} {W : World} (h1 : ∀ k, g = some k → k < B) (h2 : ∀ k, g' = some k → k < B) : Sub (mask B none W) (HH g g' W) :=
  Sub.hh (by rw [mask_size]; exact Nat.le_refl _) fun p v e => by
    obtain ⟨⟨h3, -⟩, h4⟩ := mask_cell e
    exact ⟨⟨fun h => by have := h1 _ h.symm; omega, fun h => by have := h2 _ h.symm; omega⟩, h4⟩
/-- Behind stores into the first box. -/
theorem HH.only1 {b : Nat} {g' : Option Nat} {W W' : World} (h : Only (fun j => j = b) W W') : Sub (HH (some b) g' W) (HH (some b) g' W') :=
  Sub.hh (by unfold HH; rw [pm_size]; exact h.size) fun p v e => by
    obtain ⟨h1, h2⟩ := HH.cell e
    exact ⟨h1, (World.cell?_of_block (h.block _ (cell_lt h2) (fun e => h1.1 (by rw [e])))).trans h2⟩
theorem HH.only2 {b : Nat} {g : Option Nat} {W W' : World} (h : Only (fun j => j = b) W W') : Sub (HH g (some b) W) (HH g (some b) W') :=
  Sub.hh (by unfold HH; rw [pm_size]; exact h.size) fun p v e => by
    obtain ⟨h1, h2⟩ := HH.cell e
    exact ⟨h1, (World.cell?_of_block (h.block _ (cell_lt h2) (fun e => h1.2 (by rw [e])))).trans h2⟩
theorem row_turn43 {w w' : World} {B e size n g : Nat} {v : Value} {xs : List Value} {c : Array Value} (h : w.ownsRow B e size v n xs) (hg : w.heap[g]? = some (.cells c 41 (0, 0))) (ho : Only (fun j => j = g) w w') (he : e ≠ 41) : w'.ownsRow B e size v n xs :=
  row_at h fun q cur _ hc => ho.block q (heap_lt hc) (fun e2 => by
    subst e2
    rw [hc] at hg
    injection hg with hg
    injection hg with _ ht
    exact he ht)
theorem KD.turn43 {w w' : World} {B g : Nat} {v : Value} {l : List Decl} {vxs : List Value} {c : Array Value} (h : KD w B v l vxs) (hg : w.heap[g]? = some (.cells c 41 (0, 0))) (ho : Only (fun j => j = g) w w') : KD w' B v l vxs :=
  ⟨h.len, row_turn43 h.row hg ho (by decide), fun i vx d a b => by
    obtain ⟨vas, hx⟩ := h.xtors i vx d a b
    exact ⟨vas, hx.len, row_turn43 hx.row hg ho (by decide), fun i va x a b => row_turn43 (hx.args i va x a b) hg ho (by decide)⟩⟩
abbrev zero43 : Array Value := #[.int .i64 0, .int .i64 0, .string ⟨#[]⟩, .int .i64 0, .slice none 0 0, .slice none 0 0]
/-- Ahead of the two stores. -/
structure R3 (P : Pg) (t : Tm) (vp vt : Value) (w1 : World) (Ls : Nat → Bool) (W : World) (vv : Nat → Value) (g g' : Option Nat) : Prop where
  ext : Ext w1 W
  z4 : Ls 4 = false → g = none
  o4 : Ls 4 = true → ∃ b, g = some b ∧ w1.heap.size ≤ b ∧ vv 4 = .pointer (some ⟨b, 0, none⟩) ∧ W.heap[b]? = some (.cells #[.slice none 0 0, .slice none 0 0] 25 (0, 0))
  z5 : Ls 5 = false → g' = none
  o5 : Ls 5 = true → ∃ b, g' = some b ∧ w1.heap.size ≤ b ∧ vv 5 = .pointer (some ⟨b, 0, none⟩) ∧ W.heap[b]? = some (.cells zero43 41 (0, 0))
  f0 : Ls 0 = true → vv 0 = vp
  f1 : Ls 1 = true → ∃ ud uf vxs B, vv 1 = pV ud uf ∧ KD W B ud P.decls vxs ∧ RFns (HH g g' W) uf P.funs
  f2 : Ls 2 = true → vv 2 = vt
  f3 : Ls 3 = true → ∃ xa xc k, vv 3 = tV t xa xc ∧ RT (HH g g' W) k t xa xc
section
variable {P : Pg} {t : Tm} {vp vt : Value} {w1 W W' : World} {Ls : Nat → Bool} {vv : Nat → Value} {g g' : Option Nat} {v : Value}
theorem set_ne {Ls : Nat → Bool} {i j : Nat} {b : Bool} (h : (decide (j = i) || Ls j) = b) (hn : j ≠ i) : Ls j = b := by
  rw [decide_eq_false hn, Bool.false_or] at h; exact h
theorem R3.lt1 (h : R3 P t vp vt w1 Ls W vv g g') : ∀ k, g = some k → k < W.heap.size := fun k hk => by
  cases h4 : Ls 4
  · rw [h.z4 h4] at hk; cases hk
  · obtain ⟨b, e, -, -, hb⟩ := h.o4 h4
    rw [e] at hk; cases hk
    exact heap_lt hb
theorem R3.lt2 (h : R3 P t vp vt w1 Ls W vv g g') : ∀ k, g' = some k → k < W.heap.size := fun k hk => by
  cases h4 : Ls 5
  · rw [h.z5 h4] at hk; cases hk
  · obtain ⟨b, e, -, -, hb⟩ := h.o5 h4
    rw [e] at hk; cases hk
    exact heap_lt hb
theorem R3.step {i : Nat} (h : R3 P t vp vt w1 Ls W vv g g') (hi : i < 4) (hb : Ext W W') (v : Value) (h0 : i = 0 → v = vp)
    (h1 : i = 1 → ∃ ud uf vxs B, v = pV ud uf ∧ KD W' B ud P.decls vxs ∧ RFns (mask W.heap.size none W') uf P.funs) (h2 : i = 2 → v = vt)
    (h3 : i = 3 → ∃ xa xc k, v = tV t xa xc ∧ RT (mask W.heap.size none W') k t xa xc) : R3 P t vp vt w1 (fun j => decide (j = i) || Ls j) W' (fun j => if j = i then v else vv j) g g' where
  ext := h.ext.tr hb
  z4 := fun e => h.z4 (set_ne e (by omega))
  o4 := fun e => by
    obtain ⟨b, e1, e2, e3, e4⟩ := h.o4 (set_ne e (by omega))
    exact ⟨b, e1, e2, by simp only [if_neg (show ¬ 4 = i by omega)]; exact e3, (hb.block _ (heap_lt e4)).trans e4⟩
  z5 := fun e => h.z5 (set_ne e (by omega))
  o5 := fun e => by
    obtain ⟨b, e1, e2, e3, e4⟩ := h.o5 (set_ne e (by omega))
    exact ⟨b, e1, e2, by simp only [if_neg (show ¬ 5 = i by omega)]; exact e3, (hb.block _ (heap_lt e4)).trans e4⟩
  f0 := fun e => by
    by_cases hj : 0 = i
    · simp only [if_pos hj]; exact h0 hj.symm
    · simp only [if_neg hj]; exact h.f0 (set_ne e hj)
  f1 := fun e => by
    by_cases hj : 1 = i
    · simp only [if_pos hj]
      obtain ⟨ud, uf, vxs, B, e1, e2, e3⟩ := h1 hj.symm
      exact ⟨ud, uf, vxs, B, e1, e2, e3.sub (HH.of_mask h.lt1 h.lt2)⟩
    · simp only [if_neg hj]
      obtain ⟨ud, uf, vxs, B, e1, e2, e3⟩ := h.f1 (set_ne e hj)
      exact ⟨ud, uf, vxs, B, e1, e2.ext hb, e3.sub (HH.ext hb)⟩
  f2 := fun e => by
    by_cases hj : 2 = i
    · simp only [if_pos hj]; exact h2 hj.symm
    · simp only [if_neg hj]; exact h.f2 (set_ne e hj)
  f3 := fun e => by
    by_cases hj : 3 = i
    · simp only [if_pos hj]
      obtain ⟨xa, xc, k, e1, e2⟩ := h3 hj.symm
      exact ⟨xa, xc, k, e1, RT.sub (HH.of_mask h.lt1 h.lt2) e2⟩
    · simp only [if_neg hj]
      obtain ⟨xa, xc, k, e1, e2⟩ := h.f3 (set_ne e hj)
      exact ⟨xa, xc, k, e1, RT.sub (HH.ext hb) e2⟩
end
/-- Between the two stores. -/
structure R3b (P : Pg) (t : Tm) (w1 W : World) (vv : Nat → Value) (b b' : Nat) (ud uf xa xc : Value) : Prop where
  ext : Ext w1 W
  lo : w1.heap.size ≤ b ∧ w1.heap.size ≤ b'
  ne : b ≠ b'
  p4 : vv 4 = .pointer (some ⟨b, 0, none⟩)
  p5 : vv 5 = .pointer (some ⟨b', 0, none⟩)
  v3 : vv 3 = tV t xa xc
  box : W.heap[b]? = some (.cells #[ud, uf] 25 (0, 0))
  box' : W.heap[b']? = some (.cells zero43 41 (0, 0))
  decls : ∃ B vxs, KD W B ud P.decls vxs
  funs : RFns (HH (some b) (some b') W) uf P.funs
  body : ∃ k, RT (HH (some b) (some b') W) k t xa xc
/-- Behind both. -/
structure R3c (P : Pg) (t : Tm) (w1 W : World) (b b' : Nat) (ud uf xa xc : Value) : Prop where
  ext : Ext w1 W
  box : W.heap[b]? = some (.cells #[ud, uf] 25 (0, 0))
  box' : W.heap[b']? = some (.cells #[.int .i64 t.op, .int .i64 t.n, .string t.nm, .int .i64 t.ty, xa, xc] 41 (0, 0))
  decls : ∃ B vxs, KD W B ud P.decls vxs
  funs : RFns W uf P.funs
  body : ∃ k, RT W k t xa xc
theorem R3.store {P : Pg} {t : Tm} {vp vt : Value} {w1 W : World} {Ls : Nat → Bool} {vv : Nat → Value} {g g' : Option Nat} (h : R3 P t vp vt w1 Ls W vv g g') (h4 : Ls 4 = true) (h5 : Ls 5 = true) (h1 : Ls 1 = true) (h3 : Ls 3 = true) :
    ∃ b b' ud uf xa xc, vv 4 = .pointer (some ⟨b, 0, none⟩) ∧ vv 1 = pV ud uf ∧ W.heap[b]? = some (.cells #[.slice none 0 0, .slice none 0 0] 25 (0, 0)) ∧ (∃ A c A' c' n n', ud = .slice A n c ∧ uf = .slice A' n' c') ∧ R3b P t w1 ((W.setCell ⟨b, 0, none⟩ ud).setCell ⟨b, 1, none⟩ uf) vv b b' ud uf xa xc := by
  obtain ⟨b, rfl, l4, e4, hb⟩ := h.o4 h4
  obtain ⟨b', rfl, l5, e5, hb'⟩ := h.o5 h5
  obtain ⟨ud, uf, vxs, B, e1, hk, hf⟩ := h.f1 h1
  obtain ⟨xa, xc, k, e3, hr⟩ := h.f3 h3
  have hne : b ≠ b' := fun e => by
    subst e
    rw [hb] at hb'
    injection hb' with hb'
    injection hb' with _ ht
    exact absurd ht (by decide)
  have ho := only2_set W b ud uf
  obtain ⟨A, c, hud⟩ := own_shape hk.row
  obtain ⟨A', c', huf, -⟩ := hf.form
  refine ⟨b, b', ud, uf, xa, xc, e4, e1, hb, ⟨A, c, A', c', _, _, hud, huf⟩, Below.setNew (Below.setNew h.ext l4 _) l4 _, ⟨l4, l5⟩, hne, e4, e5, e3, box2_both hb _ _, ?_, ⟨B, vxs, hk.turn hb ho⟩, hf.sub (HH.only1 ho), ⟨k, RT.sub (HH.only1 ho) hr⟩⟩
  exact (ho.block _ (heap_lt hb') (fun e => hne e.symm)).trans hb'
theorem R3b.store {P : Pg} {t : Tm} {w1 W : World} {vv : Nat → Value} {b b' : Nat} {ud uf xa xc : Value} (h : R3b P t w1 W vv b b' ud uf xa xc) :
    R3c P t w1 ((((((W.setCell ⟨b', 0, none⟩ (.int .i64 t.op)).setCell ⟨b', 1, none⟩ (.int .i64 t.n)).setCell ⟨b', 2, none⟩ (.string t.nm)).setCell ⟨b', 3, none⟩ (.int .i64 t.ty)).setCell ⟨b', 4, none⟩ xa).setCell ⟨b', 5, none⟩ xc) b b' ud uf xa xc := by
  have ho := only6_set W b' (.int .i64 t.op) (.int .i64 t.n) (.string t.nm) (.int .i64 t.ty) xa xc
  obtain ⟨B, vxs, hk⟩ := h.decls
  obtain ⟨k, hr⟩ := h.body
  refine ⟨?_, (ho.block _ (heap_lt h.box) h.ne).trans h.box, box6_set h.box' _ _ _ _ _ _, ⟨B, vxs, hk.turn43 h.box' ho⟩, h.funs.sub ((HH.only2 ho).tr (HH.un _ _ _)), ⟨k, RT.sub ((HH.only2 ho).tr (HH.un _ _ _)) hr⟩⟩
  exact h.ext.trans (ho.below h.ext.size (fun k e => by rw [e]; exact h.lo.2))
end Go.Proofs.YtogmjgccopmplaaGreat

/- ref.go: SameStrings, of equal lists. -/
namespace Go.Proofs.YtogmjgccopmplaaGreat
open Go.RowKit
end Go.Proofs.YtogmjgccopmplaaGreat

/- ref.go: Same of declarations. -/
namespace Go.Proofs.YtogmjgccopmplaaGreat
open Go.RowKit
def eqArg (a b : Arg) : Bool := (a.ty == b.ty) && (a.co == b.co)
def eqAs : List Arg → List Arg → Bool
  | [], [] => true
  | a :: r, b :: t => eqArg a b && eqAs r t
  | _, _ => false
def eqX (x y : Xtor) : Bool := (x.name.toList == y.name.toList) && eqAs x.args y.args
def eqXs : List Xtor → List Xtor → Bool
  | [], [] => true
  | a :: r, b :: t => eqX a b && eqXs r t
  | _, _ => false
def eqD (d e : Decl) : Bool := (d.name.toList == e.name.toList) && (d.codata == e.codata) && eqXs d.xtors e.xtors
def eqDs : List Decl → List Decl → Bool
  | [], [] => true
  | a :: r, b :: t => eqD a b && eqDs r t
  | _, _ => false
end Go.Proofs.YtogmjgccopmplaaGreat

/- ref.go: Same and SameParams, of equal terms and parameters. -/
namespace Go.Proofs.YtogmjgccopmplaaGreat
open Go.RowKit
end Go.Proofs.YtogmjgccopmplaaGreat

/- ref.go: SameProg, of equal programs. -/
namespace Go.Proofs.YtogmjgccopmplaaGreat
open Go.RowKit
end Go.Proofs.YtogmjgccopmplaaGreat

/- law.go: CheckOne. -/
namespace Go.Proofs.YtogmjgccopmplaaGreat
open Go.RowKit
end Go.Proofs.YtogmjgccopmplaaGreat
