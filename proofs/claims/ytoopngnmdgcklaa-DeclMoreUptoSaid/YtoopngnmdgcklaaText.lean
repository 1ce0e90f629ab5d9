import Derived.Test.YtoopngnmdgcklaaBuild
import Derived.Test.YtoopngnmdgcklaaValid
import Derived.Test.YtoopngnmdgcklaaPure3
import Derived.Deep.RegionHeld3
namespace Go.Proofs.Ytoopngnmdgcklaa
open Go.RowKit

theorem typeName_any (v : Value) (l : List Decl) (t : Int) (w : World) (h : RDecls w v l) (h0 : 0 ≤ t) (h1 : t ≤ l.length) :
    Calls Try.prog 54 #[v, .int .i64 t] w fun e w' => e = .returned (.string (tyB l t)) ∧ w = w' := by
  have HR := Lib.hid h
  obtain ⟨A, c, rfl, hc, hm⟩ := h.form
  clear h
  unfold maxLen at hm
  by_cases hz : t = 0
  · subst hz
    have HT := Lib.hid (tyB_zero l)
    go_enter Try.func54, Try.ntmps54
    go_wp2
    go_ret
    exact ⟨by rw [HT.out]; rfl, rfl⟩
  · have hz' : (t == 0) = false := by simp [hz]
    clear hz
    obtain ⟨u, hu⟩ : ∃ u : Nat, t = u + 1 := ⟨(t - 1).toNat, by simp at hz'; omega⟩
    subst hu
    have hul : u < l.length := by omega
    have HI := Lib.hid (tyB_in hul)
    obtain ⟨b, o, vx, rfl, hbl, g0, g1, g2, g3, g4⟩ := HR.out.at_ hul
    clear g3
    generalize l[u] = d at *
    go_enter Try.func54, Try.ntmps54
    go_wp2
    go_ret
    exact ⟨by rw [HI.out]; rfl, rfl⟩
theorem RType_any (v : Value) (l : List Decl) (t : Int) (w : World) (h : RDecls w v l) (h0 : 0 ≤ t) (h1 : t ≤ l.length) :
    Calls Try.prog 34 #[v, .int .i64 t] w fun e w' => e = .returned (.string (tyB l t)) ∧ w = w' := by
  have HR := Lib.hid h
  obtain ⟨A, c, rfl, hc, hm⟩ := h.form
  clear h
  unfold maxLen at hm
  by_cases hz : t = 0
  · subst hz
    have HT := Lib.hid (tyB_zero l)
    go_enter Try.func34, Try.ntmps34
    go_wp2
    go_ret
    exact ⟨by rw [HT.out]; rfl, rfl⟩
  · have hz' : (t == 0) = false := by simp [hz]
    clear hz
    obtain ⟨u, hu⟩ : ∃ u : Nat, t = u + 1 := ⟨(t - 1).toNat, by simp at hz'; omega⟩
    subst hu
    have hul : u < l.length := by omega
    have HI := Lib.hid (tyB_in hul)
    obtain ⟨b, o, vx, rfl, hbl, g0, g1, g2, g3, g4⟩ := HR.out.at_ hul
    clear g3
    generalize l[u] = d at *
    go_enter Try.func34, Try.ntmps34
    go_wp2
    go_ret
    exact ⟨by rw [HI.out]; rfl, rfl⟩
theorem keyword_any (A : Option Addr) (n c : Nat) (nm : ByteArray) (co : Bool) (w : World) :
    Calls Try.prog 42 #[.agg #[.string nm, .bool co, .slice A n c]] w fun e w' => e = .returned (.string (kwB co)) ∧ w' = w.alloc (.cells #[.string nm, .bool co, .slice A n c] 48) := by
  cases co
  all_goals
    go_enter Try.func42, Try.ntmps42
    go_wp2
    go_ret
    exact ⟨rfl, rfl⟩

theorem oth {b X e : Nat} {w w' : World} {c : Array Value} {fz : Nat × Nat} (h : Lib.OthersKept 5 (some b) w w') (hX : w.heap[X]? = some (.cells c e fz)) (hne : X ≠ b) (he : e ≠ 5) : w'.heap[X]? = some (.cells c e fz) :=
  h X _ hX (by simpa using hne) (fun c' fz' e' => by injection e' with _ e2; exact he e2)
theorem cellAt {X e : Nat} {w : World} {c : Array Value} {fz : Nat × Nat} (hX : w.heap[X]? = some (.cells c e fz)) (i : Nat) : w.cell? ⟨X, i, none⟩ = c[i]? := Lib.cell_of_heap hX i
theorem heapNew (w : World) (o : Obj) : (w.alloc o).heap[w.heap.size]? = some o := (MapKept.heap_alloc w o).1
theorem BW.lt {B b : Nat} {bs : List UInt8} {w : World} (h : BW B b bs w) : b < w.heap.size := h.elim (fun x => x.lt) (fun x => x.lt)
theorem Wrote.al {B b : Nat} {bs : List UInt8} {w : World} (h : BW B b bs w) (hB : B ≤ w.heap.size) (o : Obj) : Wrote B b bs w (w.alloc o) :=
  ⟨Lib.IsBuilderF.alloc h o, (Below.refl _ _).alloc hB o, (Lib.OthersKept.refl _ _ _).alloc o⟩
theorem Ext.wrote {B b : Nat} {bs : List UInt8} {w0 w w' : World} (h : Ext w0 w) (hB : w0.heap.size ≤ B) (k : Wrote B b bs w w') : Ext w0 w' := h.trans (k.below.mono hB)
theorem add_str (a : ByteArray) (b : List UInt8) : (a ++ (⟨b.toArray⟩ : ByteArray)).data.toList = a.data.toList ++ b := by simp

theorem writeXtor_any (B b : Nat) (bs : List UInt8) (v va : Value) (l : List Decl) (x : Xtor) (w0 w : World) (hR : RDecls w0 v l) (hA : RArgs w0 va x.args) (hB : w0.heap.size ≤ B) (hE : Ext w0 w) (hBw : B ≤ w.heap.size)
    (h : BW B b bs w) (hlen : bs.length + 1000 ≤ 100000) (hn : ∀ d ∈ l, d.name.size ≤ 10) (hxn : x.name.size ≤ 10) (ha : x.args.length ≤ 6) (hty : ∀ a ∈ x.args, 0 ≤ a.ty ∧ a.ty ≤ l.length) :
    Calls Try.prog 44 #[.pointer (some ⟨b, 0, none⟩), v, .agg #[.string x.name, va]] w fun e w' => e = .returned (.tuple #[]) ∧ Wrote B b (bs ++ xtorS l x) w w' := by
  have HXS : Hid (xtorS l x = x.name.data.toList ++ [40] ++ argsS l 0 x.args ++ [41]) := rfl
  generalize hxx : xtorS l x = xx at *
  clear hxx
  have hbl := h.lt
  obtain ⟨xn, as'⟩ := x
  dsimp only at *
  have hnl := size_toList xn
  have HR := Lib.hid hR; have HA := Lib.hid hA; have HEE := Lib.hid hE; clear hR hE
  obtain ⟨A, c, rfl, hc, hm⟩ := hA.form
  unfold maxLen at hm
  clear hA
  have HN := Lib.hid hn; have HTY := Lib.hid hty; clear hn hty
  have HW1 := Lib.hid (Wrote.al h hBw (Obj.cells #[Value.string xn, Value.slice A as'.length c] 45))
  clear h
  have HX1 := Lib.hid (heapNew w (Obj.cells #[Value.string xn, Value.slice A as'.length c] 45))
  have hB1 : B ≤ (w.alloc (Obj.cells #[Value.string xn, Value.slice A as'.length c] 45)).heap.size := by simp; omega
  have hXb : w.heap.size ≠ b := by omega
  go_enter Try.func44, Try.ntmps44
  go_wp2_with fail
  generalize w.alloc _ = w1 at *
  have hl1 : bs.length + (xn ++ (⟨#[40]⟩ : ByteArray)).size ≤ 140737488355328 := by
    rw [ByteArray.size_append]; have : (⟨#[40]⟩ : ByteArray).size = 1 := rfl; omega
  (with_reducible refine (WriteString_any B b bs _ _ HW1.out.at_ hl1 hB1).mono ?_)
  rintro e w2 ⟨rfl, hw⟩
  rw [add_str xn [40]] at hw
  have HW2 := Lib.hid (HW1.out.tr hw)
  have hX2 := oth hw.others HX1.out hXb (by decide)
  have hB2 : B ≤ w2.heap.size := Nat.le_trans hB1 hw.below.size
  clear hw hl1
  have c1 : w2.cell? ⟨w.heap.size, 1, none⟩ = some (.slice A as'.length c) := cellAt hX2 1
  clear hX2
  go_wp2
  generalize hbs1 : bs ++ (xn.data.toList ++ [40]) = bs1 at *
  have hlen1 : bs1.length ≤ bs.length + 11 := by rw [← hbs1]; simp; omega
  have HBS := Lib.hid hbs1; clear hbs1
  go_loopw [16] (fun i wr => ∃ (k : Nat) (acc : List UInt8), k ≤ as'.length ∧ i = .int .i64 k ∧ Wrote B b acc w wr ∧ acc ++ argsS l k (as'.drop k) = bs1 ++ argsS l 0 as' ∧ acc.length ≤ bs.length + 11 + 13 * k) (fun i _ => as'.length - (intOf i).toNat)
  case atStart => exact ⟨0, bs1, Nat.zero_le _, rfl, HW2.out, rfl, by omega⟩
  case round =>
    obtain ⟨k, acc, hk, rfl, hwr, hacc, hl⟩ := hrel
    have HWR := Lib.hid hwr; have HACC := Lib.hid hacc
    have hBr : B ≤ wr.heap.size := Nat.le_trans hBw hwr.below.size
    have hbr := hwr.at_.lt
    clear hwr hacc c1
    by_cases hlt : k < as'.length
    · have HD := Lib.hid (drop_step hlt)
      have HAr := Lib.hid (HA.out.below (HEE.out.wrote hB HWR.out))
      have hm' : as'[k] ∈ as' := List.getElem_mem hlt
      have hty := HTY.out _ hm'
      obtain ⟨b2, o, rfl, hbl2, g0, g1⟩ := HAr.out.at_ hlt
      clear hm'
      generalize as'[k] = a at *
      obtain ⟨hty0, hty1⟩ := hty
      have HC : Hid (Wrote B b acc wr (wr.alloc (Obj.cells #[Value.int IntKind.i64 a.ty, Value.bool a.co] 50))) := Wrote.al HWR.out.at_ hBr _
      have HX3 := Lib.hid (heapNew wr (Obj.cells #[Value.int IntKind.i64 a.ty, Value.bool a.co] 50))
      have hB3 : B ≤ (wr.alloc (Obj.cells #[Value.int IntKind.i64 a.ty, Value.bool a.co] 50)).heap.size := by simp; omega
      have hXb3 : wr.heap.size ≠ b := by omega
      go_wp2_with fail
      generalize wr.alloc _ = w3 at *
      have hls : acc.length + 2 ≤ 140737488355328 := by omega
      (with_reducible refine (separate_any B b acc k _ HC.out.at_ hls hB3).mono ?_)
      rintro e w4 ⟨rfl, hw⟩
      have hX4 := oth hw.others HX3.out hXb3 (by decide)
      have hB4 : B ≤ w4.heap.size := Nat.le_trans hB3 hw.below.size
      have HW4 := Lib.hid (HWR.out.tr (HC.out.tr hw)); clear hw
      have c0 : w4.cell? ⟨wr.heap.size, 0, none⟩ = some (.int .i64 a.ty) := cellAt hX4 0
      have c1 : w4.cell? ⟨wr.heap.size, 1, none⟩ = some (.bool a.co) := cellAt hX4 1
      have HX4 := Lib.hid hX4; clear hX4
      have hsep : (if 0 < k then [44, 32] else ([] : List UInt8)) = sepS k := rfl
      rw [hsep] at HW4
      have hsl := sepS_len k
      clear hsep
      have hacc4 : (acc ++ sepS k).length ≤ acc.length + 2 := by simp; omega
      cases hco : a.co
      · rw [hco] at c1
        have HCO := Lib.hid (show coS a = [] by simp [coS, hco])
        clear hco
        have HRR := Lib.hid (HR.out.below (HEE.out.wrote hB HW4.out))
        go_wp2_with fail
        (with_reducible refine (typeName_any _ _ _ _ HRR.out hty0 hty1).mono ?_)
        rintro e w5 ⟨rfl, rfl⟩
        go_wp2_with fail
        have htl := tyB_len HN.out a.ty
        have htl2 := size_toList (tyB l a.ty)
        have hl5 : (acc ++ sepS k).length + (tyB l a.ty).size ≤ 140737488355328 := by omega
        (with_reducible refine (WriteString_any B b _ _ _ HW4.out.at_ hl5 hB4).mono ?_)
        rintro e w6 ⟨rfl, hw⟩
        have HW6 := Lib.hid (HW4.out.tr hw); clear hw
        go_wp2
        go_roundw
        case rel => exact ⟨k + 1, acc ++ sepS k ++ (tyB l a.ty).data.toList, by omega, by go_num, HW6.out, by rw [← HACC.out, HD.out]; simp [argsS, HCO.out], by rw [List.length_append]; omega⟩
        case measure => simp [intOf]; omega
      · rw [hco] at c1
        have HCO := Lib.hid (show coS a = [126] by simp [coS, hco])
        clear hco
        go_wp2_with fail
        have hl5 : (acc ++ sepS k).length + (⟨#[126]⟩ : ByteArray).size ≤ 140737488355328 := by have : (⟨#[126]⟩ : ByteArray).size = 1 := rfl; omega
        (with_reducible refine (WriteString_any B b _ _ _ HW4.out.at_ hl5 hB4).mono ?_)
        rintro e w5 ⟨rfl, hw⟩
        have hX5 := oth hw.others HX4.out hXb3 (by decide)
        have hB5 : B ≤ w5.heap.size := Nat.le_trans hB4 hw.below.size
        have HW5 := Lib.hid (HW4.out.tr hw); clear hw hl5
        have c0 : w5.cell? ⟨wr.heap.size, 0, none⟩ = some (.int .i64 a.ty) := cellAt hX5 0
        clear hX5
        have HRR := Lib.hid (HR.out.below (HEE.out.wrote hB HW5.out))
        go_wp2_with fail
        (with_reducible refine (typeName_any _ _ _ _ HRR.out hty0 hty1).mono ?_)
        rintro e w5 ⟨rfl, rfl⟩
        go_wp2_with fail
        have htl := tyB_len HN.out a.ty
        have htl2 := size_toList (tyB l a.ty)
        have hl5 : (acc ++ sepS k ++ [126]).length + (tyB l a.ty).size ≤ 140737488355328 := by rw [List.length_append]; simp only [List.length_cons, List.length_nil]; omega
        (with_reducible refine (WriteString_any B b _ _ _ HW5.out.at_ hl5 hB5).mono ?_)
        rintro e w6 ⟨rfl, hw⟩
        have HW6 := Lib.hid (HW5.out.tr hw); clear hw
        go_wp2
        go_roundw
        case rel => exact ⟨k + 1, acc ++ sepS k ++ [126] ++ (tyB l a.ty).data.toList, by omega, by go_num, HW6.out, by rw [← HACC.out, HD.out]; simp [argsS, HCO.out], by rw [List.length_append, List.length_append]; simp only [List.length_cons, List.length_nil]; omega⟩
        case measure => simp [intOf]; omega
    · go_wp2_with fail
      have hl6 : acc.length + (⟨#[41]⟩ : ByteArray).size ≤ 140737488355328 := by have : (⟨#[41]⟩ : ByteArray).size = 1 := rfl; omega
      (with_reducible refine (WriteString_any B b _ _ _ HWR.out.at_ hl6 hBr).mono ?_)
      rintro e w6 ⟨rfl, hw⟩
      have HW6 := Lib.hid (HWR.out.tr hw); clear hw
      go_wp2
      go_end0
      have e1 : acc = bs1 ++ argsS l 0 as' := by have := HACC.out; rw [drop_end hlt] at this; simpa [argsS] using this
      refine ⟨rfl, ?_⟩
      have e2 : bs ++ xx = acc ++ [41] := by rw [HXS.out, e1, ← HBS.out]; simp
      rw [e2]
      exact HW6.out

theorem BW.new (w : World) : BW w.heap.size w.heap.size [] (w.alloc (.cells #[.pointer none, .slice none 0 0] 75)) :=
  Lib.IsBuilderF.of (Or.inl ⟨Nat.le_refl _, _, heapNew w _, World.ownsRow_nil _ _ _ _, by simp [Value.ownBlock]⟩)
theorem Wrote.drew {B b : Nat} {bs : List UInt8} {w w' : World} (h : Wrote B b bs w w') : Wrote B b bs w w'.drew := ⟨h.at_, h.below.drew, h.others.drew⟩

theorem BW.drew {B b : Nat} {bs : List UInt8} {w : World} (h : BW B b bs w) : BW B b bs w.drew := h
theorem BW.al {B b : Nat} {bs : List UInt8} {w : World} (h : BW B b bs w) (o : Obj) : BW B b bs (w.alloc o) := Lib.IsBuilderF.alloc h o
theorem String_any (B b : Nat) (l : List UInt8) (w : World) (h : BW B b l w) (hBw : B ≤ w.heap.size) :
    Calls Try.prog 45 #[.pointer (some ⟨b, 0, none⟩)] w fun e w' => e = .returned (.string ⟨l.toArray⟩) ∧ Below B w w' := (Try.Builder_String_any_f B b l w h hBw).mono fun _ _ ⟨h1, _, h3⟩ => ⟨h1, h3⟩
theorem text_any (v : Value) (l : List Decl) (w : World) (hR : RDecls w v l) (hF : Fine l) :
    Calls Try.prog 29 #[v] w fun e w' => e = .returned (.string ⟨(declsS l l).toArray⟩) ∧ Ext w w' := by
  have HR := Lib.hid hR
  obtain ⟨A, c, rfl, hc, hm⟩ := hR.form
  unfold maxLen at hm
  clear hR
  have HF := Lib.hid hF
  have h8 := hF.few
  clear hF
  have HN : Hid (BW _ _ _ _) := BW.new w
  have HE1 := Lib.hid (Ext.al w (.cells #[.pointer none, .slice none 0 0] 75))
  go_enter Try.func29, Try.ntmps29
  go_wp2
  have hB1 : w.heap.size ≤ (w.alloc (.cells #[.pointer none, .slice none 0 0] 75)).heap.size := by simp
  generalize w.alloc _ = w1 at *
  go_loopw [10] (fun i wr => ∃ (k : Nat) (acc : List UInt8), k ≤ l.length ∧ i = .int .i64 k ∧ Wrote w.heap.size w.heap.size acc w1 wr ∧ acc ++ declsS l (l.drop k) = declsS l l ∧ acc.length ≤ 600 * k) (fun i _ => l.length - (intOf i).toNat)
  case atStart => exact ⟨0, [], Nat.zero_le _, rfl, Wrote.rf HN.out, by simp, by simp⟩
  case round =>
    obtain ⟨k, acc, hk, rfl, hwr, hacc, hl⟩ := hrel
    obtain ⟨wo, rfl⟩ : ∃ wo : World, wo = wr := ⟨_, rfl⟩
    have HWR := Lib.hid hwr; have HACC := Lib.hid hacc
    have hBr : w.heap.size ≤ wo.heap.size := Nat.le_trans hB1 hwr.below.size
    have hbr := hwr.at_.lt
    clear hwr hacc
    by_cases hlt : k < l.length
    · have HEo := Lib.hid (HE1.out.wrote (Nat.le_refl _) HWR.out)
      obtain ⟨b2, o, vx, rfl, hbl2, g0, g1, g2, g3, g4⟩ := HR.out.at_ hlt
      have g0 := HEo.out.keep g0
      have g1 := HEo.out.keep g1
      have g2 := HEo.out.keep g2
      have HD := Lib.hid (drop_step hlt)
      have HDL := Lib.hid (declS_len HF.out (List.getElem_mem hlt))
      have HX6 := HF.out.xtors _ (List.getElem_mem hlt)
      have hn10 := HF.out.name _ (List.getElem_mem hlt)
      have HXN := Lib.hid (HF.out.xname _ (List.getElem_mem hlt))
      have HXA := Lib.hid (HF.out.args _ (List.getElem_mem hlt))
      have HXT := Lib.hid (HF.out.tys _ (List.getElem_mem hlt))
      have HDS : Hid (declS l l[k] = (kwB (l[k]).codata).data.toList ++ (l[k]).name.data.toList ++ [32, 123, 32] ++ xtorsS l 0 (l[k]).xtors ++ [32, 125, 10]) := rfl
      generalize l[k] = d at *
      obtain ⟨dn, co, xs⟩ := d
      dsimp only at *
      obtain ⟨A2, c2, rfl, hc2, hm2⟩ := g3.form
      unfold maxLen at hm2
      have HX := Lib.hid g3; clear g3
      have HC : Hid (Wrote w.heap.size w.heap.size acc wo (wo.alloc (Obj.cells #[Value.string dn, Value.bool co, Value.slice A2 xs.length c2] 48))) := Wrote.al HWR.out.at_ hBr _
      have hH := heapNew wo (Obj.cells #[Value.string dn, Value.bool co, Value.slice A2 xs.length c2] 48)
      have hB3 : w.heap.size ≤ (wo.alloc (Obj.cells #[Value.string dn, Value.bool co, Value.slice A2 xs.length c2] 48)).heap.size := by simp; omega
      have hXb3 : wo.heap.size ≠ w.heap.size := by omega
      go_wp2
      generalize wo.alloc _ = w3 at *
      have f0 : w3.cell? ⟨wo.heap.size, 0, none⟩ = some (.string dn) := cellAt hH 0
      have f1 : w3.cell? ⟨wo.heap.size, 1, none⟩ = some (.bool co) := cellAt hH 1
      have f2 : w3.cell? ⟨wo.heap.size, 2, none⟩ = some (.slice A2 xs.length c2) := cellAt hH 2
      have HH := Lib.hid hH; clear hH g0 g1 g2
      have hkw := kwB_len co
      have ha1 : Op.stringOp .add (kwB co) dn = pure (.string (kwB co ++ dn)) := by
        unfold Op.stringOp
        simp only []
        rw [if_neg (by have e : IntKind.i64.max = 9223372036854775807 := rfl
                       rw [e]; omega)]
      have hs1 : (kwB co ++ dn).size ≤ 17 := by rw [ByteArray.size_append]; omega
      have hs3 : (⟨#[32, 123, 32]⟩ : ByteArray).size = 3 := rfl
      have ha2 : Op.stringOp .add (kwB co ++ dn) ⟨#[32, 123, 32]⟩ = pure (.string (kwB co ++ dn ++ ⟨#[32, 123, 32]⟩)) := by
        unfold Op.stringOp
        simp only []
        rw [if_neg (by have e : IntKind.i64.max = 9223372036854775807 := rfl
                       rw [e]; omega)]
      have hl3 : acc.length + (kwB co ++ dn ++ (⟨#[32, 123, 32]⟩ : ByteArray)).size ≤ 140737488355328 := by rw [ByteArray.size_append]; omega
      have HL3 := Lib.hid hl3; have HS3 := Lib.hid hs3; have HS1 := Lib.hid hs1
      clear hl3 hs3 hs1 hkw
      have HBW : Hid (BW w.heap.size w.heap.size acc (w3.alloc (Obj.cells #[Value.string dn, Value.bool co, Value.slice A2 xs.length c2] 48)).drew) := (HC.out.at_.al _).drew
      have HH4 : Hid ((w3.alloc (Obj.cells #[Value.string dn, Value.bool co, Value.slice A2 xs.length c2] 48)).drew.heap[wo.heap.size]? = some (Obj.cells #[Value.string dn, Value.bool co, Value.slice A2 xs.length c2] 48 (0, 0))) := ((Ext.al w3 _).block _ (Array.getElem?_eq_some_iff.1 HH.out).1).trans HH.out
      have hB4 : w.heap.size ≤ (w3.alloc (Obj.cells #[Value.string dn, Value.bool co, Value.slice A2 xs.length c2] 48)).drew.heap.size := by simp; omega
      have HC4 : Hid (Wrote w.heap.size w.heap.size acc w3 (w3.alloc (Obj.cells #[Value.string dn, Value.bool co, Value.slice A2 xs.length c2] 48)).drew) := (Wrote.al HC.out.at_ (Nat.le_trans hBr HC.out.below.size) _).drew
      go_region_held3 (fun w' => w'.cell? ⟨wo.heap.size, 0, none⟩ = some (.string dn) ∧ w'.cell? ⟨wo.heap.size, 1, none⟩ = some (.bool co) ∧ w'.cell? ⟨wo.heap.size, 2, none⟩ = some (.slice A2 xs.length c2)) (first | exact ⟨cellAt hX4 0, cellAt hX4 1, cellAt hX4 2⟩ | go_keep)
        (first | (go_at_call 42; (with_reducible refine (keyword_any _ _ _ _ _ _).mono ?_); rintro e w' ⟨rfl, rfl⟩) | (go_at_call 41; (with_reducible refine (WriteString_any w.heap.size w.heap.size acc _ _ HBW.out HL3.out hB4).mono ?_); rintro e w4 ⟨rfl, hw⟩; have HW4 := Lib.hid hw; clear hw; have hX4 := oth HW4.out.others HH4.out hXb3 (by decide)))
      have hka : (kwB co ++ dn ++ (⟨#[32, 123, 32]⟩ : ByteArray)).data.toList = (kwB co).data.toList ++ dn.data.toList ++ [32, 123, 32] := by simp
      have HKA := Lib.hid hka; clear hka
      have HW5 := Lib.hid (HWR.out.tr (HC.out.tr (HC4.out.tr HW4.out)))
      rw [HKA.out] at HW5
      have hacc1 : (acc ++ ((kwB co).data.toList ++ dn.data.toList ++ [32, 123, 32])).length ≤ acc.length + 20 := by
        have e1 := size_toList dn
        have e2 := size_toList (kwB co)
        have e3 := kwB_len co
        simp only [List.length_append, List.length_cons, List.length_nil]
        omega
      have hac1 : acc ++ ((kwB co).data.toList ++ dn.data.toList ++ [32, 123, 32]) ++ xtorsS l 0 xs ++ [32, 125, 10] = acc ++ declS l ⟨dn, co, xs⟩ := by rw [HDS.out]; simp
      have HAC1 := Lib.hid hac1; clear hac1
      generalize acc ++ ((kwB co).data.toList ++ dn.data.toList ++ [32, 123, 32]) = acc1 at *
      have c2' := cellAt hX4 2
      have hB5 : w.heap.size ≤ w4.heap.size := Nat.le_trans hB1 HW5.out.below.size
      clear ha1 ha2 hX4 f0 f1 f2
      clear HC4 HH4 HBW HW4
      go_wp2
      go_loopw [24] (fun i wr => ∃ (j : Nat) (acc2 : List UInt8), j ≤ xs.length ∧ i = .int .i64 j ∧ Wrote w.heap.size w.heap.size acc2 w1 wr ∧ acc2 ++ xtorsS l j (xs.drop j) = acc1 ++ xtorsS l 0 xs ∧ acc2.length ≤ acc1.length + 92 * j) (fun i _ => xs.length - (intOf i).toNat)
      case atStart => exact ⟨0, acc1, Nat.zero_le _, rfl, HW5.out, rfl, by omega⟩
      case round =>
        obtain ⟨j, acc2, hj, rfl, hwr2, hacc2, hl2⟩ := hrel
        have HWR2 := Lib.hid hwr2; have HACC2 := Lib.hid hacc2
        have hBr2 : w.heap.size ≤ wr.heap.size := Nat.le_trans hB1 hwr2.below.size
        have hbr2 := hwr2.at_.lt
        clear hwr2 hacc2 c2'
        by_cases hlt2 : j < xs.length
        · have HEr := Lib.hid (HE1.out.wrote (Nat.le_refl _) HWR2.out)
          obtain ⟨b3, o3, va, rfl, hbl3, q0, q1, q2, q3⟩ := HX.out.at_ hlt2
          have q0 := HEr.out.keep q0
          have q1 := HEr.out.keep q1
          have HD2 := Lib.hid (drop_step hlt2)
          have HXNj := HXN.out _ (List.getElem_mem hlt2)
          have HXAj := HXA.out _ (List.getElem_mem hlt2)
          have HXTj := Lib.hid (HXT.out _ (List.getElem_mem hlt2))
          have hxl := xtorS_len HF.out.name (x := xs[j]) HXNj HXAj
          generalize xs[j] = x at *
          obtain ⟨A3, c3, rfl, -⟩ := q2.form
          have HXQ := Lib.hid q2; clear q2
          have HC5 : Hid (Wrote w.heap.size w.heap.size acc2 wr (wr.alloc (Obj.cells #[Value.string x.name, Value.slice A3 x.args.length c3] 45))) := Wrote.al HWR2.out.at_ hBr2 _
          have hH5 := heapNew wr (Obj.cells #[Value.string x.name, Value.slice A3 x.args.length c3] 45)
          have hXb5 : wr.heap.size ≠ w.heap.size := by omega
          have hB6 : w.heap.size ≤ (wr.alloc (Obj.cells #[Value.string x.name, Value.slice A3 x.args.length c3] 45)).heap.size := by simp; omega
          go_wp2_with fail
          generalize wr.alloc _ = w6 at *
          have hls : acc2.length + 2 ≤ 140737488355328 := by omega
          (with_reducible refine (separate_any _ _ acc2 j _ HC5.out.at_ hls hB6).mono ?_)
          rintro e w7 ⟨rfl, hw⟩
          have hX7 := oth hw.others hH5 hXb5 (by decide)
          have hB7 : w.heap.size ≤ w7.heap.size := Nat.le_trans hB6 hw.below.size
          have HW7 := Lib.hid (HWR2.out.tr (HC5.out.tr hw)); clear hw
          have e0 : w7.cell? ⟨wr.heap.size, 0, none⟩ = some (.string x.name) := cellAt hX7 0
          have e1 : w7.cell? ⟨wr.heap.size, 1, none⟩ = some (.slice A3 x.args.length c3) := cellAt hX7 1
          clear hX7 hH5
          have hsep : (if 0 < j then [44, 32] else ([] : List UInt8)) = sepS j := rfl
          rw [hsep] at HW7
          have hsl := sepS_len j
          clear hsep
          have hacc4 : (acc2 ++ sepS j).length ≤ acc2.length + 2 := by simp; omega
          have hl7 : (acc2 ++ sepS j).length + 1000 ≤ 100000 := by omega
          go_wp2_with fail
          (with_reducible refine (writeXtor_any _ _ _ _ _ l x w w7 HR.out HXQ.out (Nat.le_refl _) (HE1.out.wrote (Nat.le_refl _) HW7.out) hB7 HW7.out.at_ hl7 HF.out.name HXNj HXAj HXTj.out).mono ?_)
          rintro e w8 ⟨rfl, hw⟩
          have HW8 := Lib.hid (HW7.out.tr hw); clear hw
          go_wp2
          go_roundw
          case rel => exact ⟨j + 1, acc2 ++ sepS j ++ xtorS l x, by omega, by go_num, HW8.out, by rw [← HACC2.out, HD2.out]; simp [xtorsS], by rw [List.length_append]; omega⟩
          case measure => simp [intOf]; omega
        · have hacc9 : acc2 = acc1 ++ xtorsS l 0 xs := by have := HACC2.out; rw [drop_end hlt2] at this; simpa [xtorsS] using this
          have HA9 := Lib.hid hacc9; clear hacc9
          have hl9 : acc2.length + (⟨#[32, 125, 10]⟩ : ByteArray).size ≤ 140737488355328 := by have : (⟨#[32, 125, 10]⟩ : ByteArray).size = 3 := rfl; omega
          go_wp2_with fail
          (with_reducible refine (WriteString_any _ _ acc2 _ _ HWR2.out.at_ hl9 hBr2).mono ?_)
          rintro e w8 ⟨rfl, hw⟩
          have HW8 := Lib.hid (HWR2.out.tr hw); clear hw
          go_wp2
          go_roundw
          case rel =>
            have e9 : acc2 ++ [32, 125, 10] = acc ++ declS l ⟨dn, co, xs⟩ := by rw [HA9.out]; exact HAC1.out
            have hdl := HDL.out
            refine ⟨k + 1, acc2 ++ [32, 125, 10], by omega, by go_num, HW8.out, ?_, ?_⟩
            · rw [e9, ← HACC.out, HD.out]; simp [declsS]
            · rw [e9, List.length_append]; omega
          case measure => simp [intOf]; omega
    · have hacc9 : acc = declsS l l := by have := HACC.out; rw [drop_end hlt] at this; simpa [declsS] using this
      subst hacc9
      go_wp2_with fail
      (with_reducible refine (String_any _ _ _ _ HWR.out.at_ hBr).mono ?_)
      rintro e w8 ⟨rfl, hw⟩
      go_wp2
      go_ret
      exact ⟨rfl, (HE1.out.wrote (Nat.le_refl _) HWR.out).trans hw⟩

def strP (l : List Decl) : ByteArray × Int := if validB l then (⟨(declsS l l).toArray⟩, 0) else (⟨#[]⟩, 10)
theorem String_call (v : Value) (l : List Decl) (w : World) (h : RDecls w v l) :
    Calls Try.prog 10 #[v] w fun e w' => e = .returned (.tuple #[.string (strP l).1, .int .i64 (strP l).2]) ∧ Ext w w' := by
  have HC : Hid (strP l = if validB l then (⟨(declsS l l).toArray⟩, 0) else (⟨#[]⟩, 10)) := rfl
  generalize hrr : strP l = rr at *
  clear hrr
  have HR := Lib.hid h; clear h
  go_enter Try.func10, Try.ntmps10
  go_wp2_with fail
  (with_reducible refine (valid_any _ _ _ HR.out).mono ?_)
  rintro e w1 ⟨rfl, hb⟩
  have HB1 := Lib.hid hb; clear hb
  cases hq : validB l
  · have HQ := Lib.hid hq; clear hq
    go_wp2
    go_ret2
    exact ⟨by rw [HC.out, HQ.out]; rfl, HB1.out⟩
  · have HQ := Lib.hid hq; clear hq
    go_wp2_with fail
    (with_reducible refine (text_any _ _ _ (HR.out.below HB1.out) (Fine.of HQ.out)).mono ?_)
    rintro e w2 ⟨rfl, hb⟩
    have HB2 := Lib.hid (HB1.out.tr hb); clear hb
    go_wp2
    go_ret2
    exact ⟨by rw [HC.out, HQ.out]; rfl, HB2.out⟩
end Go.Proofs.Ytoopngnmdgcklaa
