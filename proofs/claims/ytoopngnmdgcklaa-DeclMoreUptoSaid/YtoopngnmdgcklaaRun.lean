import Derived.Test.YtoopngnmdgcklaaFind
namespace Go.Proofs.Ytoopngnmdgcklaa
open Go.RowKit

theorem own_pop {w : World} {B n c : Nat} {A : Option Addr} {xs : List Value} {x : Value} (h : w.ownsRow B 1 1 (.slice A (n + 1) c) (n + 1) (xs ++ [x])) (hl : xs.length = n) : w.ownsRow B 1 1 (.slice A n c) n xs := by
  refine ⟨by simpa using hl, ?_⟩
  rcases h.2 with ⟨h1, h2⟩ | ⟨g, cap, cur, h1, h2, h3, h4, h5, h6, h7⟩
  · omega
  · cases h1
    refine .inr ⟨g, c, cur, rfl, h2, h3, by omega, h5, h6, ?_⟩
    have e : cur.toList.take (n * 1) = (cur.toList.take ((n + 1) * 1)).take n := by rw [List.take_take]; congr 1; omega
    rw [e, h7, List.take_append_of_le_length (by omega), ← hl, List.take_length]

theorem SI.pop {w : World} {B bs gF gW : Nat} {F : List Bool} {W : List (List Con)} {Q cs : List Con} {c : Con} {mis : Nat → Nat} {wv : List Value} {A : Option Addr} {cq : Nat} (h : SI w B bs gF gW F W (Q ++ [c]) cs mis wv (.slice A (Q.length + 1) cq)) :
    SI (w.setCell ⟨bs, 2, none⟩ (.slice A Q.length cq)) B bs gF gW F W Q cs mis wv (.slice A Q.length cq) := by
  have hq := h.qown
  rw [List.length_append, List.map_append] at hq
  have ho := own_pop (c := cq) (n := Q.length) (xs := Q.map clo) (x := clo c) hq (by simp)
  have hb : (Value.slice A Q.length cq).ownBlock = (Value.slice A (Q.length + 1) cq).ownBlock := by cases A <;> rfl
  exact h.work (World.grownBy.refl w _) ho (.inl hb)

/-- What 'run' leaves. -/
structure RPost (B bs gF gW n : Nat) (W : List (List Con)) (cs : List Con) (wv : List Value) (w : World) (e : Ending) (w' : World) : Prop where
  ret : e = .returned (.tuple #[])
  si : ∃ F mis qv, SI w' B bs gF gW F W [] cs mis wv qv ∧ LJ n F W [] cs mis ∧ Fired F cs mis
  below : Below B w w'

theorem run_any (B bs gF gW n : Nat) (F : List Bool) (W : List (List Con)) (Q cs : List Con) (mis : Nat → Nat) (wv : List Value) (qv : Value) (w : World) (h : SI w B bs gF gW F W Q cs mis wv qv) (hj : LJ n F W Q cs mis) (hf : Fired F cs mis)
    (hn : n ≤ 8) (hp : pot n F W Q ≤ 1000) (hWs : ∀ L ∈ W, L.length ≤ 1000) (hms : ∀ m, mis m ≤ 1000) :
    Calls Try.prog 47 #[.pointer (some ⟨bs, 0, none⟩)] w (RPost B bs gF gW n W cs wv w) := by
  have H := Lib.hid h; have HJ := Lib.hid hj; have HF := Lib.hid hf; have HM := Lib.hid hms; have HWS := Lib.hid hWs
  clear h hj hf hms hWs
  go_enter Try.func47, Try.ntmps47
  go_wp2
  go_loopg [2] (pot n F W Q) (fun k s wr => ∃ F Q mis qv, SI wr B bs gF gW F W Q cs mis wv qv ∧ LJ n F W Q cs mis ∧ Fired F cs mis ∧ (∀ m, mis m ≤ 1000) ∧ Below B w wr ∧ pot n F W Q ≤ k ∧ k ≤ 1000)
  case atStart => exact ⟨F, Q, mis, qv, H.out, HJ.out, HF.out, HM.out, Below.refl _ _, Nat.le_refl _, hp⟩
  case round =>
    clear H HJ HF HM hp
    obtain ⟨F, Q, mis, qv, h, hj, hf, hms, hb, hpk, hk⟩ := hrel
    have HJ := Lib.hid hj; have HF := Lib.hid hf; have HB := Lib.hid hb
    obtain ⟨A, cq, rfl, hcq, hmq, hcell⟩ := own_form h.qown
    have HC := Lib.hid hcell; clear hcell
    unfold maxLen at hmq
    have hs := h.hs
    have c2 := cellAt hs 2
    have HS := Lib.hid h
    clear hj hf hb
    rcases List.eq_nil_or_concat Q with hq | ⟨Q', c, hq⟩
    · subst hq
      clear h hs
      go_wp2
      go_end0
      exact ⟨rfl, ⟨F, mis, _, HS.out, HJ.out, HF.out⟩, HB.out⟩
    · rw [List.concat_eq_append] at hq
      subst hq
      rw [List.length_append] at *
      simp only [List.length_cons, List.length_nil, Nat.zero_add] at *
      obtain ⟨g, rfl, hgl, hgB, hcl⟩ := HC.out Q'.length (clo c) (by simp)
      have HP := Lib.hid (h.pop)
      have hcc := HJ.out.memQ c (by simp)
      have HT := Lib.hid (HJ.out.told HF.out hcc)
      have hci := (HJ.out.low c hcc).1
      have HFl := Lib.hid HJ.out.Fl
      have hs1 := HP.out.hs
      have hz := Lib.frozen_of_heap hs 2
      have HB1 : Hid (Below B w (wr.setCell ⟨bs, 2, none⟩ (.slice (some ⟨g, 0, none⟩) Q'.length cq))) := HB.out.setCell (p := ⟨bs, 2, none⟩) h.lows.1 _
      have HQl : Hid (Q'.length ≤ 1000) := by
        have h1 := pot_pop (n := n) (F := F) (W := W) (Q := Q') (c := c)
        have h2 := pot_q (n := n) (F := F) (W := W) (Q := Q')
        show _ ≤ _
        omega
      have hql := HQl.out
      have HPK := Lib.hid hpk
      have HMM := Lib.hid hms
      unfold clo at hcl
      clear h hs hs1 hpk hms
      go_wp2_with fail
      generalize wr.setCell _ _ = w1 at *
      (with_reducible refine (told_any B bs gF gW F W Q' cs mis wv _ c _ HP.out hcc (by rw [HFl.out]; exact hci) (by rw [HFl.out]; exact hn) HQl.out HWS.out HT.out.1 (HMM.out _)).mono ?_)
      rintro e w2 ⟨rfl, hsi, hb2⟩
      have HSI := Lib.hid hsi; have HB2 := Lib.hid hb2; clear hsi hb2
      go_wp2
      have hpot : pot n (if mis c.m = 1 then fndF F c.i else F) W (if mis c.m = 1 then fndQ F W Q' c.i else Q') = pot n F W Q' := by
        by_cases h1 : mis c.m = 1
        · rw [if_pos h1, if_pos h1]; exact pot_find hci HFl.out
        · rw [if_neg h1, if_neg h1]
      have hpp := pot_pop (n := n) (F := F) (W := W) (Q := Q') (c := c)
      have hpk := HPK.out
      go_roundg (pot n F W Q')
      case measure => omega
      case rel =>
        obtain ⟨qv2, hsi⟩ := HSI.out
        refine ⟨_, _, _, qv2, hsi, HT.out.2.1, HT.out.2.2, fun m => ?_, HB1.out.trans HB2.out, by rw [hpot]; exact Nat.le_refl _, by omega⟩
        unfold misS
        have h1 := HMM.out m
        have h2 := HMM.out c.m
        split <;> omega
end Go.Proofs.Ytoopngnmdgcklaa
