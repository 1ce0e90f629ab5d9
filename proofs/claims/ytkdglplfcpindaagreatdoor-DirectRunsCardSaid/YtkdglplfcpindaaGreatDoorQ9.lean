import Derived.Test.YtkdglplfcpindaaGreatDoorQ8
import Derived.Shelf.Strings.Builder1
import Derived.Shelf.Strings.BuilderF
import Derived.Shelf.Strings.BuilderK
import Derived.Shelf.Strconv.Itoa0
import Derived.Shelf.Strconv.Itoa1
import Derived.Shelf.LaysM
import Derived.Shelf.Strconv.Itoa2
import Derived.Shelf.Strconv.Itoa3
import Derived.Test.YtkdglplfcpindaaGreatDoorProg
import Derived.Lib.OthersKept
set_option maxRecDepth 100000
namespace Go.Proofs
open Go.Shelf
def Tryz.lays169_ren : Go.Shelf.Ren := ⟨fun | 169 => 46 | n => n, fun | 70 => 105 | 9 => 9 | 0 => 0 | 72 => 108 | 37 => 106 | 127 => 162 | 3 => 3 | 5 => 5 | n => n, fun | n => n⟩
theorem Tryz.lays169 : Go.Proofs.Lays.n169 Tryz.prog Tryz.lays169_ren := {
  mixed := by kernel_rfl
  f169 := Tryz.func46.trans (congrArg some (by kernel_rfl))
  t0 := Tryz.underlying0
  a0 := Tryz.isAgg0
  z0 := Tryz.sizeOf0
  v0 := Tryz.zeroValue0
  t3 := Tryz.underlying3
  a3 := Tryz.isAgg3
  z3 := Tryz.sizeOf3
  v3 := Tryz.zeroValue3
  t9 := Tryz.underlying9
  a9 := Tryz.isAgg9
  z9 := Tryz.sizeOf9
  v9 := Tryz.zeroValue9
  t37 := Tryz.underlying106
  a37 := Tryz.isAgg106
  z37 := Tryz.sizeOf106
  v37 := Tryz.zeroValue106
  t70 := Tryz.underlying105
  a70 := Tryz.isAgg105
  z70 := Tryz.sizeOf105
  v70 := Tryz.zeroValue105
  t72 := Tryz.underlying108
  a72 := Tryz.isAgg108
  z72 := Tryz.sizeOf108
  v72 := Tryz.zeroValue108
  t127 := Tryz.underlying162
  a127 := Tryz.isAgg162
  z127 := Tryz.sizeOf162
  v127 := Tryz.zeroValue162 }
theorem Tryz.Builder_Extra_169 : Builder.Extra Tryz.prog Tryz.lays169_ren := {
  sizeBuilder := by kernel_rfl
  liesBuilder := by kernel_rfl
  t5 := Tryz.underlying5
  a5 := Tryz.isAgg5
  z5 := Tryz.sizeOf5
  v5 := Tryz.zeroValue5
  infoByte := by kernel_rfl
  cellsByte := by kernel_rfl
  sizeByte := by kernel_rfl
  neB5 := by decide }
open Go.RowKit Go.Lib in
theorem Tryz.Builder_String_any_k (B b : Nat) (l : List UInt8) (w : World) (h : Lib.IsBuilderF 108 5 B b (Lib.byteCells l) w) (hBw : B <= w.heap.size) :
    Calls Tryz.prog 46 #[.pointer (some ⟨b, 0, none⟩)] w fun e w' => e = .returned (.string ⟨l.toArray⟩) /\ (Lib.IsBuilderF 108 5 B b (Lib.byteCells l) w' /\ Below B w w' /\ Lib.OthersKept 5 (some b) w w') := Any.Builder_String_any_k Tryz.lays169 Tryz.Builder_Extra_169 B b l w h hBw
def Tryz.lays171_ren : Go.Shelf.Ren := ⟨fun | 171 => 44 | 243 => 73 | 246 => 112 | 283 => 138 | 284 => 139 | 285 => 140 | 286 => 141 | 129 => 161 | 317 => 160 | 318 => 162 | 319 => 163 | 320 => 164 | 337 => 169 | 338 => 170 | n => n, fun | 3 => 3 | 9 => 9 | 2 => 2 | 4 => 4 | 171 => 236 | 0 => 0 | 53 => 237 | 37 => 106 | 5 => 5 | 173 => 240 | 212 => 256 | 51 => 257 | 20 => 20 | 213 => 258 | 46 => 259 | 232 => 263 | 233 => 264 | n => n, fun | 17 => 0 | 18 => 1 | 19 => 2 | n => n⟩
theorem Tryz.lays171 : Go.Proofs.Lays.n171 Tryz.prog Tryz.lays171_ren := {
  mixed := by kernel_rfl
  f129 := Tryz.func161.trans (congrArg some (by kernel_rfl))
  f171 := Tryz.func44.trans (congrArg some (by kernel_rfl))
  f243 := Tryz.func73.trans (congrArg some (by kernel_rfl))
  f246 := Tryz.func112.trans (congrArg some (by kernel_rfl))
  f283 := Tryz.func138.trans (congrArg some (by kernel_rfl))
  f284 := Tryz.func139.trans (congrArg some (by kernel_rfl))
  f285 := Tryz.func140.trans (congrArg some (by kernel_rfl))
  f286 := Tryz.func141.trans (congrArg some (by kernel_rfl))
  f317 := Tryz.func160.trans (congrArg some (by kernel_rfl))
  f318 := Tryz.func162.trans (congrArg some (by kernel_rfl))
  f319 := Tryz.func163.trans (congrArg some (by kernel_rfl))
  f320 := Tryz.func164.trans (congrArg some (by kernel_rfl))
  f337 := Tryz.func169.trans (congrArg some (by kernel_rfl))
  f338 := Tryz.func170.trans (congrArg some (by kernel_rfl))
  t0 := Tryz.underlying0
  a0 := Tryz.isAgg0
  z0 := Tryz.sizeOf0
  v0 := Tryz.zeroValue0
  t2 := Tryz.underlying2
  a2 := Tryz.isAgg2
  z2 := Tryz.sizeOf2
  v2 := Tryz.zeroValue2
  t3 := Tryz.underlying3
  a3 := Tryz.isAgg3
  z3 := Tryz.sizeOf3
  v3 := Tryz.zeroValue3
  t4 := Tryz.underlying4
  a4 := Tryz.isAgg4
  z4 := Tryz.sizeOf4
  v4 := Tryz.zeroValue4
  t5 := Tryz.underlying5
  a5 := Tryz.isAgg5
  z5 := Tryz.sizeOf5
  v5 := Tryz.zeroValue5
  t9 := Tryz.underlying9
  a9 := Tryz.isAgg9
  z9 := Tryz.sizeOf9
  v9 := Tryz.zeroValue9
  t20 := Tryz.underlying20
  a20 := Tryz.isAgg20
  z20 := Tryz.sizeOf20
  v20 := Tryz.zeroValue20
  t37 := Tryz.underlying106
  a37 := Tryz.isAgg106
  z37 := Tryz.sizeOf106
  v37 := Tryz.zeroValue106
  t46 := Tryz.underlying259
  a46 := Tryz.isAgg259
  z46 := Tryz.sizeOf259
  v46 := Tryz.zeroValue259
  t51 := Tryz.underlying257
  a51 := Tryz.isAgg257
  z51 := Tryz.sizeOf257
  v51 := Tryz.zeroValue257
  t53 := Tryz.underlying237
  a53 := Tryz.isAgg237
  z53 := Tryz.sizeOf237
  v53 := Tryz.zeroValue237
  t171 := Tryz.underlying236
  a171 := Tryz.isAgg236
  z171 := Tryz.sizeOf236
  v171 := Tryz.zeroValue236
  t173 := Tryz.underlying240
  a173 := Tryz.isAgg240
  z173 := Tryz.sizeOf240
  v173 := Tryz.zeroValue240
  t212 := Tryz.underlying256
  a212 := Tryz.isAgg256
  z212 := Tryz.sizeOf256
  v212 := Tryz.zeroValue256
  t213 := Tryz.underlying258
  a213 := Tryz.isAgg258
  z213 := Tryz.sizeOf258
  t232 := Tryz.underlying263
  a232 := Tryz.isAgg263
  z232 := Tryz.sizeOf263
  v232 := Tryz.zeroValue263
  t233 := Tryz.underlying264
  a233 := Tryz.isAgg264
  z233 := Tryz.sizeOf264
  v233 := Tryz.zeroValue264
  g17 := by kernel_rfl
  g18 := by kernel_rfl
  g19 := by kernel_rfl }
open Go.RowKit Go.Lib in
theorem Tryz.strconv_Itoa_small (i : Nat) (hi : i < 100) (w : World) :
    Calls Tryz.prog 44 #[.int .i64 i] w fun e w' => e = .returned (.string ⟨(Lib.decDigits i).toArray⟩) /\ w' = w := Any.strconv_Itoa_small Tryz.lays171 i hi w
end Go.Proofs

namespace Go.Proofs.YtkdglplfcpindaaGreatDoor
open Go.RowKit
theorem Tryz.infoU8 : (Tryz.prog.info? 5).map (fun i => (i.zero, i.size, i.bytes)) = some (some (.int .u8 0), 1, 1) := by kernel_rfl
theorem Tryz.sizeBuilder : (Tryz.prog.info? 108).map (·.size) = some 2 := by kernel_rfl
theorem Tryz.liesBuilder : liesAt Tryz.prog Tryz.prog.depth 108 (2 / Tryz.prog.cellsOf 108) 0 108 1 = true := by kernel_rfl
set_option maxHeartbeats 1000000 in
theorem copyCheck_any (B b : Nat) (bs : List Value) (w : World) (h : Lib.IsBuilderF 108 5 B b bs w) :
    Calls Tryz.prog 72 #[.pointer (some ⟨b, 0, none⟩)] w fun e w' => e = .returned (.tuple #[]) /\ Lib.BuilderAtF 108 5 B b (.pointer (some ⟨b, 0, none⟩)) bs w' /\ Below B w w' /\ Lib.OthersKept 5 (some b) w w' := by
  obtain ⟨j, hj, hjs⟩ := Option.map_eq_some_iff.1 Tryz.sizeBuilder
  have HJ := LH hj; have HJS := LH hjs; clear hj hjs
  rcases h with h | h
  . have c0 := h.cell0
    have f0 := h.frozen0
    have HSH := LH h.shape
    have HH := LH h; clear h
    go_enter Tryz.func72, Tryz.ntmps72
    go_wp2
    rw [Lib.run_to_unsafe w ⟨b, 0, none⟩ Tryz.underlying105 Tryz.underlying199 HJ.out (by rw [HJS.out]; decide) HSH.out (Nat.zero_lt_succ 1)]
    simp only [Result.andThen]
    rw [Oper.upon_value]
    go_wp2
    rw [run_callFunc_extern Tryz.func111 (by kernel_rfl) (by kernel_rfl) (by kernel_rfl) (e := Extern.AbiNoEscape.same) (by kernel_rfl)]
    rw [Lib.run_noEscape]
    simp only [Result.andThen]
    rw [Oper.upon_value]
    go_wp2
    rw [Lib.run_from_unsafe w ⟨b, 0, none⟩ Tryz.underlying199 Tryz.underlying105 HJ.out HSH.out Tryz.liesBuilder]
    simp only [Result.andThen]
    rw [Oper.upon_value]
    go_wp2
    go_end0
    exact ⟨rfl, HH.out.used _, (Below.refl B w).setCell (p := ⟨b, 0, none⟩) HH.out.1 _, (Lib.OthersKept.refl _ _ w).setCell ⟨b, 0, none⟩ rfl _⟩
  . have c0 := h.cell0
    have HH := LH h; clear h
    go_enter Tryz.func72, Tryz.ntmps72
    go_wp2
    rw [Lib.run_neq_ptr_same w _ Tryz.underlying105 HJ.out]
    go_wp2
    go_end0
    exact ⟨rfl, HH.out, Below.refl B _, Lib.OthersKept.refl _ _ _⟩
def BW (B b : Nat) (bs : List UInt8) (w : World) : Prop := Lib.IsBuilderF 108 5 B b (Lib.byteCells bs) w
structure Wrote (B b : Nat) (bs : List UInt8) (w w' : World) : Prop where
  at_ : BW B b bs w'
  below : Below B w w'
  others : Lib.OthersKept 5 (some b) w w'
theorem byteCells_app (a b : List UInt8) : Lib.byteCells a ++ Lib.byteCells b = Lib.byteCells (a ++ b) := by simp [Lib.byteCells]
set_option maxHeartbeats 1000000 in
theorem WriteString_any (B b : Nat) (bs : List UInt8) (s : ByteArray) (w : World) (h : BW B b bs w) (hlen : bs.length + s.size <= 140737488355328) (hBw : B <= w.heap.size) :
    Calls Tryz.prog 43 #[.pointer (some ⟨b, 0, none⟩), .string s] w fun e w' => e = .returned (.tuple #[.int .i64 s.size, .nilIface]) /\ Wrote B b (bs ++ s.data.toList) w w' := by
  obtain ⟨i0, hi, hz0, hz1, hz2⟩ := info_parts Tryz.infoU8
  have HI := LH hi; have HZ0 := LH hz0; have HZ1 := LH hz1; have HZ2 := LH hz2; clear hi hz0 hz1 hz2
  have HL := LH hlen; clear hlen
  go_enter Tryz.func43, Tryz.ntmps43
  go_wp2_with (go_at_call 72; refine (copyCheck_any B b _ _ h).mono ?_)
  rintro e w1 ⟨rfl, h1, hb1, hk1⟩
  obtain ⟨hB, v, hbk, hown, hne⟩ := h1
  have c0 : w1.cell? ⟨b, 0, none⟩ = some (.pointer (some ⟨b, 0, none⟩)) := by rw [Lib.cell_of_heap hbk]; rfl
  have c1 : w1.cell? ⟨b, 1, none⟩ = some v := by rw [Lib.cell_of_heap hbk]; rfl
  have hl : (Lib.byteCells bs).length + s.size <= 140737488355328 := by have := HL.out; simpa [Lib.byteCells] using this
  go_wp2_with (at_builtin; refine Lib.wpList_append_own_stringF _ rfl _ _ 106 9 rfl B 5 i0 Tryz.underlying106 Tryz.underlying9 HI.out HZ0.out HZ1.out HZ2.out _ _ _ rfl hown s rfl ?c3 ?c4 ?c5 ?_)
  case c3 => unfold maxLen; omega
  case c4 => omega
  case c5 => have := hb1.size; omega
  intro v' w2 hown' hgrow _
  have hlt : b < w1.heap.size := by
    rcases Nat.lt_or_ge b w1.heap.size with h' | h'
    . exact h'
    . simp [Array.getElem?_eq_none h'] at hbk
  have hb2 : w2.heap[b]? = some (.cells #[.pointer (some ⟨b, 0, none⟩), v] 108 (0, 0)) := by
    rw [hgrow.block b hlt (fun e => hne e.symm)]
    exact hbk
  have d0 : w2.cell? ⟨b, 0, none⟩ = some (.pointer (some ⟨b, 0, none⟩)) := by rw [Lib.cell_of_heap hb2]; rfl
  have d1 : w2.cell? ⟨b, 1, none⟩ = some v := by rw [Lib.cell_of_heap hb2]; rfl
  have f1 : w2.frozen? ⟨b, 1, none⟩ = false := Lib.frozen_of_heap hb2 1
  obtain ⟨ao, n', cap, rfl⟩ : ∃ ao n' cap, v' = .slice ao n' cap := by
    rcases hown'.2 with ⟨hv, _⟩ | ⟨g, cap, cur, fz, hv, _⟩
    . exact ⟨_, _, _, hv⟩
    . exact ⟨_, _, _, hv⟩
  have hat : BW B b (bs ++ s.data.toList) (w2.setCell ⟨b, 1, none⟩ (.slice ao n' cap)) := by
    refine Or.inr ?_
    rw [← byteCells_app]
    exact Lib.BuilderAtF.put (T := 108) (e := 5) hB hb2 (bs' := Lib.byteCells bs ++ Lib.byteCells s.data.toList) (by rw [← Lib.strCells_eq, List.length_append, Lib.strCells_length]; exact hown') (by decide)
  have HAT := LH hat; clear hat
  have HB := LH ((hb1.grown hgrow (by have := hb1.size; omega) (fun k hk => (hown.lt k hk).1)).setCell (p := ⟨b, 1, none⟩) hB (.slice ao n' cap))
  have HK := LH ((hk1.grown hgrow (Lib.ownsRowF_kind hown)).setCell ⟨b, 1, none⟩ rfl (.slice ao n' cap))
  clear hown hown' hgrow hb1 hk1
  go_wp2
  go_ret2
  exact ⟨rfl, HAT.out, HB.out, HK.out⟩
end Go.Proofs.YtkdglplfcpindaaGreatDoor

namespace Go.Proofs.YtkdglplfcpindaaGreatDoor
abbrev Env := List (Str × Int)
def findE : Env -> Str -> Option Int
  | [], _ => none
  | (s, y) :: r, x => if s.toList == x.toList then some y else findE r x
abbrev TyR := List Int ⊕ Int
def prodL (x : Xtor) : List Int := (x.args.filter fun a => !a.co).map Arg.ty
def lastT (x : Xtor) : Int := match x.args.getLast? with | some a => a.ty | none => 0
def xtorAt (P : Pg) (ty n : Int) : Xtor := (declAt P ty).xtors.getD n.toNat noXtor
def fnAt (P : Pg) (n : Int) : Fn := P.funs.getD n.toNat noFn
def eqL : List Int -> List Int -> Bool
  | [], [] => true
  | a :: r, b :: s => decide (a = b) && eqL r s
  | _, _ => false
theorem eqL_iff : ∀ a b : List Int, eqL a b = true ↔ a = b
  | [], [] => by simp [eqL]
  | [], b :: s => by simp [eqL]
  | a :: r, [] => by simp [eqL]
  | a :: r, b :: s => by simp [eqL, eqL_iff r s]
def okR (b : Bool) (y : Int) : TyR := if b then .inr y else .inl []
def ruleS (P : Pg) (V L : Env) (op n : Int) (nm : Str) (ty : Int) (ps : List Int) : TyR :=
  if op = 0 then (match findE V nm with | some y => .inr y | none => .inl [])
  else if op = 1 then .inr 0
  else if op = 2 then okR (decide (ps.getD 0 0 = 0) && decide (ps.getD 1 0 = 0)) 0
  else if op = 3 then okR (decide (ps.getD 0 0 = 0) && decide (ps.getD 1 0 = ps.getD 2 0)) (ps.getD 1 0)
  else if op = 4 then okR (eqL ps (prodL (xtorAt P ty n))) ty
  else if op = 5 then okR ((ps.drop 2).all (fun y => decide (y = ps.getD 1 0)) && decide (ps.getD 0 0 = ty)) (ps.getD 1 0)
  else if op = 6 then okR (eqL ps (prodL (xtorAt P ty n) ++ [ty])) (lastT (xtorAt P ty n))
  else if op = 7 then okR (eqL ps ((declAt P ty).xtors.map lastT)) ty
  else if op = 8 then okR (decide (ps.getD 0 0 = ty)) (ps.getD 1 0)
  else if op = 9 then okR (eqL ps ((fnAt P n).ps.map Prm.ty)) (fnAt P n).res
  else if op = 10 then okR (decide (ps.getD 0 0 = 0)) (ps.getD 1 0)
  else if op = 11 then okR (decide (ps.getD 0 0 = ty)) ty
  else (match findE L nm with | some y => okR (decide (ps.getD 0 0 = y)) ty | none => .inl [])
def argV (op : Int) (nm : Str) (ty : Int) (i : Nat) (V : Env) : Env := if op = 8 /\ i = 1 then (nm, ty) :: V else V
def argL (op : Int) (nm : Str) (ty : Int) (L : Env) : Env := if op = 11 then (nm, ty) :: L else L
def bindE : List Str -> List Int -> Env -> Env
  | s :: r, y :: q, V => bindE r q ((s, y) :: V)
  | _, _, V => V
mutual
def tyT (P : Pg) : Env -> Env -> Tm -> TyR
  | V, L, .mk op n nm ty args cls => match tyA P op nm ty V L 0 args with
    | .inl p => .inl p
    | .inr a => match tyC P V L args.length (declAt P ty).xtors cls with
      | .inl p => .inl p
      | .inr b => ruleS P V L op n nm ty (a ++ b)
def tyA (P : Pg) (op : Int) (nm : Str) (ty : Int) : Env -> Env -> Nat -> List Tm -> List Int ⊕ List Int
  | _, _, _, [] => .inr []
  | V, L, i, a :: r => match tyT P (argV op nm ty i V) (argL op nm ty L) a with
    | .inl p => .inl ((i : Int) :: p)
    | .inr y => match tyA P op nm ty V L (i + 1) r with
      | .inl p => .inl p
      | .inr q => .inr (y :: q)
def tyC (P : Pg) : Env -> Env -> Nat -> List Xtor -> List (List Str × Tm) -> List Int ⊕ List Int
  | _, _, _, _, [] => .inr []
  | V, L, i, xs, (ns, t) :: r => match tyT P (bindE ns (prodL (xs.headD noXtor)) V) L t with
    | .inl p => .inl ((i : Int) :: p)
    | .inr y => match tyC P V L (i + 1) xs.tail r with
      | .inl p => .inl p
      | .inr q => .inr (y :: q)
end
def kidE (P : Pg) (V L : Env) (t : Tm) (i : Nat) : Env × Env :=
  if i < t.args.length then (argV t.op t.nm t.ty i V, argL t.op t.nm t.ty L)
  else (bindE (t.cls.getD (i - t.args.length) ([], .mk 0 0 ⟨#[]⟩ 0 [] [])).1 (prodL ((declAt P t.ty).xtors.getD (i - t.args.length) noXtor)) V, L)
def kidT (t : Tm) (i : Nat) : Tm := if i < t.args.length then t.args.getD i (.mk 0 0 ⟨#[]⟩ 0 [] []) else (t.cls.getD (i - t.args.length) ([], .mk 0 0 ⟨#[]⟩ 0 [] [])).2
def tyK (P : Pg) (V L : Env) (t : Tm) : Nat -> Nat -> List Int ⊕ List Int
  | _, 0 => .inr []
  | i, k + 1 => match tyT P (kidE P V L t i).1 (kidE P V L t i).2 (kidT t i) with
    | .inl p => .inl ((i : Int) :: p)
    | .inr y => match tyK P V L t (i + 1) k with
      | .inl p => .inl p
      | .inr q => .inr (y :: q)
theorem tyK_args (P : Pg) (V L : Env) (t : Tm) : ∀ (r : List Tm) (i k : Nat), (∀ j, r[j]? = t.args[i + j]?) -> i + r.length = t.args.length →
    tyK P V L t i (r.length + k) = match tyA P t.op t.nm t.ty V L i r with
      | .inl p => .inl p
      | .inr a => match tyK P V L t t.args.length k with
        | .inl p => .inl p
        | .inr b => .inr (a ++ b)
  | [], i, k, _, hl => by
    simp only [List.length_nil, Nat.zero_add, tyA]
    rw [show i = t.args.length by simpa using hl]
    cases tyK P V L t t.args.length k <;> rfl
  | a :: r, i, k, hj, hl => by
    have hi : i < t.args.length := by simp at hl; omega
    have ha : t.args[i]? = some a := by have := hj 0; simpa using this.symm
    have e1 : kidE P V L t i = (argV t.op t.nm t.ty i V, argL t.op t.nm t.ty L) := by unfold kidE; rw [if_pos hi]
    have e2 : kidT t i = a := by unfold kidT; rw [if_pos hi, List.getD_eq_getElem?_getD, ha]; rfl
    have ih := tyK_args P V L t r (i + 1) k (fun j => by have := hj (j + 1); simp at this; rw [this]; congr 1; omega) (by simp at hl; omega)
    rw [List.length_cons, show r.length + 1 + k = (r.length + k) + 1 by omega, tyK, e1, e2, tyA, ih]
    cases tyT P (argV t.op t.nm t.ty i V) (argL t.op t.nm t.ty L) a with
    | inl p => rfl
    | inr y =>
      cases tyA P t.op t.nm t.ty V L (i + 1) r with
      | inl p => rfl
      | inr q => cases tyK P V L t t.args.length k <;> rfl
theorem tyK_cls (P : Pg) (V L : Env) (t : Tm) : ∀ (r : List (List Str × Tm)) (xs : List Xtor) (i : Nat), (∀ j, r[j]? = t.cls[i + j]?) -> (∀ j, xs.getD j noXtor = (declAt P t.ty).xtors.getD (i + j) noXtor) →
    tyK P V L t (t.args.length + i) r.length = tyC P V L (t.args.length + i) xs r
  | [], xs, i, _, _ => by simp [tyK, tyC]
  | (ns, a) :: r, xs, i, hj, hx => by
    have ha : t.cls[i]? = some (ns, a) := by have := hj 0; simpa using this.symm
    have e1 : kidE P V L t (t.args.length + i) = (bindE ns (prodL (xs.headD noXtor)) V, L) := by
      unfold kidE
      rw [if_neg (by omega), Nat.add_sub_cancel_left, List.getD_eq_getElem?_getD, ha]
      have := hx 0
      rw [Nat.add_zero] at this
      rw [← this]
      cases xs <;> rfl
    have e2 : kidT t (t.args.length + i) = a := by unfold kidT; rw [if_neg (by omega), Nat.add_sub_cancel_left, List.getD_eq_getElem?_getD, ha]; rfl
    have ih := tyK_cls P V L t r xs.tail (i + 1) (fun j => by have := hj (j + 1); simp at this; rw [this]; congr 1; omega) (fun j => by
      have := hx (j + 1)
      rw [show i + 1 + j = i + (j + 1) by omega, ← this]
      cases xs <;> simp)
    rw [List.length_cons, tyK, e1, e2, tyC, show t.args.length + i + 1 = t.args.length + (i + 1) by omega, ih]
theorem tyT_kids (P : Pg) (V L : Env) (t : Tm) : tyT P V L t = match tyK P V L t 0 (t.args.length + t.cls.length) with
    | .inl p => .inl p
    | .inr ps => ruleS P V L t.op t.n t.nm t.ty ps := by
  rw [tyK_args P V L t t.args 0 t.cls.length (fun j => by rw [Nat.zero_add]) (by simp)]
  have h := tyK_cls P V L t t.cls (declAt P t.ty).xtors 0 (fun j => by rw [Nat.zero_add]) (fun j => by rw [Nat.zero_add])
  rw [Nat.add_zero] at h
  rw [h]
  cases t with
  | mk op n nm ty args cls =>
    rw [tyT]
    show (match tyA P op nm ty V L 0 args with | .inl p => _ | .inr a => _) = _
    simp only [Tm.args, Tm.cls, Tm.op, Tm.nm, Tm.ty, Tm.n]
    cases tyA P op nm ty V L 0 args with
    | inl p => rfl
    | inr a => cases tyC P V L args.length (declAt P ty).xtors cls <;> rfl
theorem tyK_len (P : Pg) (V L : Env) (t : Tm) : ∀ (k i : Nat) (ps : List Int), tyK P V L t i k = .inr ps -> ps.length = k
  | 0, i, ps, h => by rw [tyK] at h; cases h; rfl
  | k + 1, i, ps, h => by
    rw [tyK] at h
    cases hy : tyT P (kidE P V L t i).1 (kidE P V L t i).2 (kidT t i) with
    | inl p => rw [hy] at h; cases h
    | inr y =>
      rw [hy] at h
      cases hk : tyK P V L t (i + 1) k with
      | inl p => rw [hk] at h; cases h
      | inr q => rw [hk] at h; cases h; rw [List.length_cons, tyK_len P V L t k (i + 1) q hk]
end Go.Proofs.YtkdglplfcpindaaGreatDoor

namespace Go.Proofs.YtkdglplfcpindaaGreatDoor
mutual
inductive Vl where
  | int (n : Int)
  | con (ty n : Int) (args : List It)
  | obj (t : Tm) (e : En)
inductive It where
  | held (v : Vl)
  | thunk (t : Tm) (e : En)
inductive En where
  | mk (vs : List (Str × It)) (ls : List (Str × List Fr))
inductive Fr where
  | left (t : Tm) (e : En)
  | right (t : Tm) (e : En) (a : Int)
  | zero (t : Tm) (e : En)
  | emit (t : Tm) (e : En)
  | ana (t : Tm) (e : En)
  | obs (t : Tm) (e : En) (args : List It)
  | bind (terms : List Tm) (types : List Int) (bound : List It) (t : Tm) (e : En)
end
abbrev Kt := List Fr
namespace En
def vs : En -> List (Str × It) | mk a _ => a
def ls : En -> List (Str × Kt) | mk _ b => b
end En
inductive Tk where
  | ev (t : Tm) (e : En) (k : Kt)
  | pass (v : Vl) (k : Kt)
inductive Nx where
  | go (s : Tk)
  | stop (how val : Int)
def findA {α : Type} : List (Str × α) -> Str -> Option α
  | [], _ => none
  | (s, y) :: r, x => if s.toList == x.toList then some y else findA r x
def withA {α : Type} : List Str -> List α -> List (Str × α) -> List (Str × α)
  | s :: r, y :: q, V => withA r q ((s, y) :: V)
  | _, _, V => V
def noTm : Tm := .mk 0 0 ⟨#[]⟩ 0 [] []
def bindV (e : En) (ns : List Str) (b : List It) : En := .mk (withA ns b e.vs) e.ls
def markL (e : En) (s : Str) (k : Kt) : En := .mk e.vs ((s, k) :: e.ls)
def bodyS (f : Fn) (b : List It) (k : Kt) : Tk := .ev f.body (.mk (withA (f.ps.map Prm.nm) b []) []) k
def afterS (P : Pg) (t : Tm) (e : En) (k : Kt) (b : List It) : Tk :=
  if t.op = 4 then .pass (.con t.ty t.n b) k
  else if t.op = 6 then .ev (t.args.getD (t.args.length - 1) noTm) e (.obs t e b :: k)
  else if t.op = 8 then .ev (t.args.getD 1 noTm) (bindV e [t.nm] b) k
  else bodyS (fnAt P t.n) b k
def lazyB (P : Pg) (y : Int) : Bool := !(decide (y = 0) || !(declAt P y).codata)
def resS (P : Pg) (t : Tm) (e : En) (k : Kt) : List Tm -> List Int -> List It -> Tk
  | a :: r, y :: q, b => if lazyB P y then resS P t e k r q (b ++ [.thunk a e]) else .ev a e (.bind (a :: r) (y :: q) b t e :: k)
  | _, _, b => afterS P t e k b
def termsOf (t : Tm) : List Tm := if t.op = 6 then t.args.take (t.args.length - 1) else if t.op = 8 then t.args.take 1 else t.args
def typesOf (P : Pg) (t : Tm) : List Int :=
  if t.op = 8 then [t.ty] else if t.op = 9 then (fnAt P t.n).ps.map Prm.ty else prodL (xtorAt P t.ty t.n)
def itemS (x : It) (k : Kt) : Tk := match x with | .held v => .pass v k | .thunk t e => .ev t e k
def evS (P : Pg) (t : Tm) (e : En) (k : Kt) : Nx :=
  if t.op = 0 then (match findA e.vs t.nm with | some x => .go (itemS x k) | none => .stop 2 0)
  else if t.op = 1 then .go (.pass (.int t.n) k)
  else if t.op = 2 then .go (.ev (t.args.getD 0 noTm) e (.left t e :: k))
  else if t.op = 3 then .go (.ev (t.args.getD 0 noTm) e (.zero t e :: k))
  else if t.op = 5 then .go (.ev (t.args.getD 0 noTm) e (.ana t e :: k))
  else if t.op = 7 then .go (.pass (.obj t e) k)
  else if t.op = 10 then .go (.ev (t.args.getD 0 noTm) e (.emit t e :: k))
  else if t.op = 11 then .go (.ev (t.args.getD 0 noTm) (markL e t.nm k) k)
  else if t.op = 12 then (match findA e.ls t.nm with | some k' => .go (.ev (t.args.getD 0 noTm) e k') | none => .stop 2 0)
  else .go (resS P t e k (termsOf t) (typesOf P t) [])
def wr64 (n : Int) : Int := (n + 9223372036854775808) % 18446744073709551616 - 9223372036854775808
def quotP (a b : Int) : Int := if b = 0 then 0 else wr64 (a.tdiv b)
def primR (op a b : Int) : Int :=
  if op = 0 then wr64 (a + b)
  else if op = 1 then wr64 (a - b)
  else if op = 2 then wr64 (a * b)
  else if op = 3 then quotP a b
  else if op = 4 then wr64 (a - wr64 (b * quotP a b))
  else if op = 5 then (if a = b then 1 else 0)
  else (if a < b then 1 else 0)
def recS (P : Pg) (v : Vl) : Kt -> Nx × List Int
  | [] => match v with | .int n => (.stop 0 n, []) | _ => (.stop 2 0, [])
  | .left t e :: k => match v with | .int n => (.go (.ev (t.args.getD 1 noTm) e (.right t e n :: k)), []) | _ => (.stop 2 0, [])
  | .right t _ a :: k => match v with | .int n => (.go (.pass (.int (primR t.n a n)) k), []) | _ => (.stop 2 0, [])
  | .zero t e :: k => match v with | .int n => (.go (.ev (t.args.getD (if n = 0 then 1 else 2) noTm) e k), []) | _ => (.stop 2 0, [])
  | .emit t e :: k => match v with | .int n => (.go (.ev (t.args.getD 1 noTm) e k), [n]) | _ => (.stop 2 0, [])
  | .ana t e :: k => match v with
    | .con ty n args => if ty = t.ty then (.go (.ev (t.cls.getD n.toNat ([], noTm)).2 (bindV e (t.cls.getD n.toNat ([], noTm)).1 args) k), []) else (.stop 2 0, [])
    | _ => (.stop 2 0, [])
  | .obs t _ args :: k => match v with
    | .obj u e => if u.ty = t.ty then (.go (.ev (u.cls.getD t.n.toNat ([], noTm)).2 (bindV e (u.cls.getD t.n.toNat ([], noTm)).1 args) k), []) else (.stop 2 0, [])
    | _ => (.stop 2 0, [])
  | .bind ts ys b t e :: k => (.go (resS P t e k ts.tail ys.tail (b ++ [.held v])), [])
structure St where
  steps : Nat
  outs : List Int
  task : Tk
structure Rn where
  stop : Int
  val : Int
  outs : List Int
  steps : Nat
def doS (P : Pg) (fuel : Nat) (s : St) : Rn ⊕ St :=
  match s.task with
  | .ev t e k => if s.steps = fuel then .inl ⟨1, 0, s.outs, s.steps⟩ else (match evS P t e k with
    | .go q => .inr ⟨s.steps + 1, s.outs, q⟩
    | .stop how val => .inl ⟨how, val, s.outs, s.steps + 1⟩)
  | .pass v k => (match recS P v k with
    | (.go q, o) => .inr ⟨s.steps, s.outs ++ o, q⟩
    | (.stop how val, o) => .inl ⟨how, val, s.outs ++ o, s.steps⟩)
def runS (P : Pg) (fuel : Nat) : Nat -> St -> Option Rn
  | 0, _ => none
  | n + 1, s => match doS P fuel s with
    | .inl r => some r
    | .inr s' => runS P fuel n s'
def startS (P : Pg) (inputs : List Int) : St := ⟨0, [], bodyS (fnAt P 0) (inputs.map fun n => .held (.int n)) []⟩
def rankT : Tk -> Nat | .ev _ _ _ => 0 | .pass _ k => k.length + 1
theorem afterS_rank (P : Pg) (t : Tm) (e : En) (k : Kt) (b : List It) : rankT (afterS P t e k b) <= k.length + 1 := by
  unfold afterS bodyS
  split <;> (try split) <;> (try split) <;> simp [rankT]
theorem resS_rank (P : Pg) (t : Tm) (e : En) (k : Kt) : ∀ (l : List Tm) (q : List Int) (b : List It), rankT (resS P t e k l q b) <= k.length + 1
  | [], q, b => by simp only [resS]; exact afterS_rank P t e k b
  | a :: r, [], b => by simp only [resS]; exact afterS_rank P t e k b
  | a :: r, y :: q, b => by
    simp only [resS]
    split
    . exact resS_rank P t e k r q _
    . simp [rankT]
theorem recS_rank (P : Pg) (v : Vl) (k : Kt) (q : Tk) (o : List Int) (h : recS P v k = (.go q, o)) : rankT q < k.length + 1 := by
  cases k with
  | nil => cases v <;> simp [recS] at h
  | cons f k =>
    cases f with
    | bind ts ys b t e =>
      simp only [recS, Prod.mk.injEq, Nx.go.injEq] at h
      obtain ⟨rfl, -⟩ := h
      have := resS_rank P t e k ts.tail ys.tail (b ++ [.held v])
      simp only [List.length_cons]; omega
    | right t e a => cases v <;> simp [recS] at h; obtain ⟨rfl, -⟩ := h; simp [rankT]
    | left t e => cases v <;> simp [recS] at h; obtain ⟨rfl, -⟩ := h; simp [rankT]
    | zero t e => cases v <;> simp [recS] at h; obtain ⟨rfl, -⟩ := h; simp [rankT]
    | emit t e => cases v <;> simp [recS] at h; obtain ⟨rfl, -⟩ := h; simp [rankT]
    | ana t e =>
      cases v <;> simp only [recS] at h
      . simp at h
      . split at h <;> simp at h; obtain ⟨rfl, -⟩ := h; simp [rankT]
      . simp at h
    | obs t e a =>
      cases v <;> simp only [recS] at h
      . simp at h
      . simp at h
      . split at h <;> simp at h; obtain ⟨rfl, -⟩ := h; simp [rankT]
theorem runS_ends (P : Pg) (fuel : Nat) : ∀ (m r : Nat) (s : St), s.steps <= fuel -> fuel - s.steps <= m -> rankT s.task <= r -> ∃ n x, runS P fuel n s = some x := by
  intro m
  induction m with
  | zero =>
    intro r
    induction r with
    | zero =>
      intro s h0 h1 h2
      obtain ⟨st, o, tk⟩ := s
      cases tk with
      | ev t e k => exact ⟨1, ⟨1, 0, o, st⟩, by simp only [runS, doS]; rw [if_pos (by simp at h0 h1; omega)]⟩
      | pass v k => simp [rankT] at h2
    | succ r ih =>
      intro s h0 h1 h2
      obtain ⟨st, o, tk⟩ := s
      cases tk with
      | ev t e k => exact ⟨1, ⟨1, 0, o, st⟩, by simp only [runS, doS]; rw [if_pos (by simp at h0 h1; omega)]⟩
      | pass v k =>
        obtain ⟨nx, o'⟩ : ∃ z, recS P v k = z := ⟨_, rfl⟩
        cases hz : recS P v k with
        | mk a b =>
          cases a with
          | stop how val => exact ⟨1, ⟨how, val, o ++ b, st⟩, by simp only [runS, doS, hz]⟩
          | go q =>
            have hr := recS_rank P v k q b hz
            simp only [rankT] at h2
            obtain ⟨n, x, hx⟩ := ih ⟨st, o ++ b, q⟩ h0 h1 (by show rankT q <= r; omega)
            exact ⟨n + 1, x, by simp only [runS, doS, hz]; exact hx⟩
  | succ m ihm =>
    intro r
    induction r with
    | zero =>
      intro s h0 h1 h2
      obtain ⟨st, o, tk⟩ := s
      cases tk with
      | ev t e k =>
        by_cases hf : st = fuel
        . exact ⟨1, ⟨1, 0, o, st⟩, by simp only [runS, doS]; rw [if_pos hf]⟩
        . cases hz : evS P t e k with
          | stop how val => exact ⟨1, ⟨how, val, o, st + 1⟩, by simp only [runS, doS, hz]; rw [if_neg hf]⟩
          | go q =>
            obtain ⟨n, x, hx⟩ := ihm (rankT q) ⟨st + 1, o, q⟩ (by show st + 1 <= fuel; have : st <= fuel := h0; omega) (by show fuel - (st + 1) <= m; have : fuel - st <= m + 1 := h1; omega) (Nat.le_refl _)
            exact ⟨n + 1, x, by simp only [runS, doS, hz]; rw [if_neg hf]; exact hx⟩
      | pass v k => simp [rankT] at h2
    | succ r ih =>
      intro s h0 h1 h2
      obtain ⟨st, o, tk⟩ := s
      cases tk with
      | ev t e k => exact ih ⟨st, o, .ev t e k⟩ h0 h1 (Nat.zero_le _)
      | pass v k =>
        cases hz : recS P v k with
        | mk a b =>
          cases a with
          | stop how val => exact ⟨1, ⟨how, val, o ++ b, st⟩, by simp only [runS, doS, hz]⟩
          | go q =>
            have hr := recS_rank P v k q b hz
            simp only [rankT] at h2
            obtain ⟨n, x, hx⟩ := ih ⟨st, o ++ b, q⟩ h0 h1 (by show rankT q <= r; omega)
            exact ⟨n + 1, x, by simp only [runS, doS, hz]; exact hx⟩
theorem runS_more (P : Pg) (fuel : Nat) : ∀ (n : Nat) (s : St) (x : Rn), runS P fuel n s = some x -> ∀ m, n <= m -> runS P fuel m s = some x
  | 0, _, _, h, _, _ => by cases h
  | n + 1, s, x, h, 0, hm => by omega
  | n + 1, s, x, h, m + 1, hm => by
    simp only [runS] at h ⊢
    cases hd : doS P fuel s with
    | inl r => rw [hd] at h; exact h
    | inr s' => rw [hd] at h; exact runS_more P fuel n s' x h m (by omega)
def RunsTo (P : Pg) (fuel : Nat) (s : St) (x : Rn) : Prop := ∃ n, runS P fuel n s = some x
theorem RunsTo.one {P : Pg} {fuel : Nat} {s : St} {x y : Rn} (h : RunsTo P fuel s x) (k : RunsTo P fuel s y) : x = y := by
  obtain ⟨n, hn⟩ := h; obtain ⟨m, hm⟩ := k
  have a := runS_more P fuel n s x hn (max n m) (Nat.le_max_left ..)
  have b := runS_more P fuel m s y hm (max n m) (Nat.le_max_right ..)
  rw [a] at b; exact Option.some.inj b
theorem RunsTo.ex (P : Pg) (fuel : Nat) (inputs : List Int) : ∃ x, RunsTo P fuel (startS P inputs) x := by
  obtain ⟨n, x, h⟩ := runS_ends P fuel fuel (rankT (startS P inputs).task) (startS P inputs) (Nat.zero_le _) (by simp [startS]) (Nat.le_refl _)
  exact ⟨x, n, h⟩
end Go.Proofs.YtkdglplfcpindaaGreatDoor

namespace Go.Proofs.YtkdglplfcpindaaGreatDoor
open Go.RowKit
def RTx (w0 : World) (t : Tm) (va vc : Value) : Prop := ∃ k, RT w0 k t va vc
def RTs (w0 : World) (v : Value) (l : List Tm) : Prop :=
  ∃ A c, v = .slice A l.length c /\ l.length <= c /\ c <= maxLen ∧
    ∀ i x, l[i]? = some x -> ∃ b o xa xc, A = some ⟨b, o, none⟩ /\ b < w0.heap.size /\ C6 w0 b (o + i * 6) x xa xc /\ RTx w0 x xa xc
abbrev clV (t : Tm) (va vc pv pl : Value) : Array Value := #[.int .i64 t.op, .int .i64 t.n, .string t.nm, .int .i64 t.ty, va, vc, pv, pl]
abbrev evV (t : Tm) (va vc pv pl kv : Value) : Array Value := #[.int .i64 t.op, .int .i64 t.n, .string t.nm, .int .i64 t.ty, va, vc, pv, pl, kv]
abbrev evW (t : Tm) (va vc pv pl kv x : Value) : Array Value := #[.int .i64 t.op, .int .i64 t.n, .string t.nm, .int .i64 t.ty, va, vc, pv, pl, kv, x]
def RIs (w : World) (bad : Nat -> Prop) (v : Value) (l : List Int) : Prop :=
  ∃ A c, v = .slice A l.length c /\ l.length <= c /\ c <= maxLen /\ ∀ i x, l[i]? = some x -> ∃ b o, A = some ⟨b, o, none⟩ /\ ¬ bad b /\ w.cell? ⟨b, o + i, none⟩ = some (.int .i64 x)
def FnAt (w0 : World) (f : Fn) (vp xa xc : Value) : Prop := f.nm.size <= maxLen /\ RPrms w0 vp f.ps /\ RTx w0 f.body xa xc
inductive ThV (P : Pg) (w0 w : World) (bad : Nat -> Prop) (mb : Nat) (ev : Array Value) (t : Tm) : Value -> Prop
  | con (be : Nat) (h0 : t.op = 4) (h1 : ¬ bad be) (h2 : w.heap[be]? = some (.cells ev 161 (0, 0))) :
    ThV P w0 w bad mb ev t (.func (.func 204) #[] #[.pointer (some ⟨be, 0, none⟩)])
  | obs (be bl : Nat) (h0 : t.op = 6) (h1 : ¬ bad be) (h2 : w.heap[be]? = some (.cells ev 161 (0, 0))) (h3 : ¬ bad bl)
    (h4 : w.heap[bl]? = some (.cells #[.int .i64 ((t.args.length - 1 : Nat) : Int)] 3 (0, 0))) :
    ThV P w0 w bad mb ev t (.func (.func 205) #[] #[.pointer (some ⟨be, 0, none⟩), .pointer (some ⟨bl, 0, none⟩)])
  | lt (be : Nat) (h0 : t.op = 8) (h1 : ¬ bad be) (h2 : w.heap[be]? = some (.cells ev 161 (0, 0))) :
    ThV P w0 w bad mb ev t (.func (.func 206) #[] #[.pointer (some ⟨be, 0, none⟩)])
  | call (bm bf be : Nat) (vp xa xc : Value) (h0 : t.op = 9) (h1 : ¬ bad be) (h2 : w.heap[be]? = some (.cells ev 161 (0, 0)))
    (h3 : ¬ bad bm) (h4 : w.heap[bm]? = some (.cells #[.pointer (some ⟨mb, 0, none⟩)] 55 (0, 0)))
    (h5 : ¬ bad bf) (h6 : w.heap[bf]? = some (.cells #[.string (fnAt P t.n).nm, vp, .int .i64 (fnAt P t.n).res, .int .i64 (fnAt P t.n).body.op, .int .i64 (fnAt P t.n).body.n, .string (fnAt P t.n).body.nm, .int .i64 (fnAt P t.n).body.ty, xa, xc] 52 (0, 0)))
    (h7 : FnAt w0 (fnAt P t.n) vp xa xc) :
    ThV P w0 w bad mb ev t (.func (.func 202) #[] #[.pointer (some ⟨bm, 0, none⟩), .pointer (some ⟨bf, 0, none⟩), .pointer (some ⟨be, 0, none⟩)])
inductive DX where
  | v (a : Value) (x : Vl)
  | i (a : Value) (x : It)
  | vs (a : Value) (l : List (Str × It))
  | ls (a : Value) (l : List (Str × Kt))
  | k (a : Value) (l : Kt)
  | is (a : Value) (l : List It)
inductive D5 (P : Pg) (w0 w : World) (bad : Nat -> Prop) (mb : Nat) : DX -> Prop
  | int (n : Int) (h : ok64 n) : D5 P w0 w bad mb (.v (.iface 92 (.int .i64 n)) (.int n))
  | con (ty n : Int) (a : Value) (l : List It) (h1 : ok64 ty) (h2 : ok64 n) (h3 : D5 P w0 w bad mb (.is a l)) :
    D5 P w0 w bad mb (.v (.iface 303 (.agg #[.int .i64 ty, .int .i64 n, a])) (.con ty n l))
  | obj (t : Tm) (e : En) (va vc pv pl : Value) (h1 : RTx w0 t va vc) (h2 : D5 P w0 w bad mb (.vs pv e.vs)) (h3 : D5 P w0 w bad mb (.ls pl e.ls)) :
    D5 P w0 w bad mb (.v (.iface 297 (.agg (clV t va vc pv pl))) (.obj t e))
  | held (a : Value) (x : Vl) (h : D5 P w0 w bad mb (.v a x)) : D5 P w0 w bad mb (.i (.iface 96 (.agg #[a])) (.held x))
  | thunk (t : Tm) (e : En) (va vc pv pl : Value) (h1 : RTx w0 t va vc) (h2 : D5 P w0 w bad mb (.vs pv e.vs)) (h3 : D5 P w0 w bad mb (.ls pl e.ls)) :
    D5 P w0 w bad mb (.i (.iface 309 (.agg (clV t va vc pv pl))) (.thunk t e))
  | vnil : D5 P w0 w bad mb (.vs (.pointer none) [])
  | vcons (b : Nat) (s : Str) (a p : Value) (x : It) (l : List (Str × It)) (h0 : s.size <= maxLen) (h1 : ¬ bad b) (h2 : w.heap[b]? = some (.cells #[.string s, a, p] 235 (0, 0)))
    (h3 : D5 P w0 w bad mb (.i a x)) (h4 : D5 P w0 w bad mb (.vs p l)) : D5 P w0 w bad mb (.vs (.pointer (some ⟨b, 0, none⟩)) ((s, x) :: l))
  | lnil : D5 P w0 w bad mb (.ls (.pointer none) [])
  | lcons (b : Nat) (s : Str) (a p : Value) (x : Kt) (l : List (Str × Kt)) (h0 : s.size <= maxLen) (h1 : ¬ bad b) (h2 : w.heap[b]? = some (.cells #[.string s, a, p] 287 (0, 0)))
    (h3 : D5 P w0 w bad mb (.k a x)) (h4 : D5 P w0 w bad mb (.ls p l)) : D5 P w0 w bad mb (.ls (.pointer (some ⟨b, 0, none⟩)) ((s, x) :: l))
  | inil : D5 P w0 w bad mb (.is (.slice none 0 0) [])
  | icons (b o c : Nat) (a : Nat -> Value) (l : List It) (h0 : l.length <= c) (h1 : c <= maxLen) (h2 : l ≠ [] -> ¬ bad b) (h3 : ∀ i, i < l.length -> w.cell? ⟨b, o + i, none⟩ = some (a i))
    (h4 : ∀ i x, l[i]? = some x -> D5 P w0 w bad mb (.i (a i) x)) : D5 P w0 w bad mb (.is (.slice (some ⟨b, o, none⟩) l.length c) l)
  | fin : D5 P w0 w bad mb (.k (.iface 103 (.agg #[])) [])
  | left (t : Tm) (e : En) (va vc pv pl kv : Value) (k : Kt) (h1 : RTx w0 t va vc) (h2 : D5 P w0 w bad mb (.vs pv e.vs)) (h3 : D5 P w0 w bad mb (.ls pl e.ls)) (h4 : D5 P w0 w bad mb (.k kv k)) :
    D5 P w0 w bad mb (.k (.iface 293 (.agg (evV t va vc pv pl kv))) (.left t e :: k))
  | right (t : Tm) (e : En) (n : Int) (va vc pv pl kv : Value) (k : Kt) (h0 : ok64 n) (h1 : RTx w0 t va vc) (h2 : D5 P w0 w bad mb (.vs pv e.vs)) (h3 : D5 P w0 w bad mb (.ls pl e.ls)) (h4 : D5 P w0 w bad mb (.k kv k)) :
    D5 P w0 w bad mb (.k (.iface 313 (.agg (evW t va vc pv pl kv (.int .i64 n)))) (.right t e n :: k))
  | zero (t : Tm) (e : En) (va vc pv pl kv : Value) (k : Kt) (h1 : RTx w0 t va vc) (h2 : D5 P w0 w bad mb (.vs pv e.vs)) (h3 : D5 P w0 w bad mb (.ls pl e.ls)) (h4 : D5 P w0 w bad mb (.k kv k)) :
    D5 P w0 w bad mb (.k (.iface 294 (.agg (evV t va vc pv pl kv))) (.zero t e :: k))
  | emit (t : Tm) (e : En) (va vc pv pl kv : Value) (k : Kt) (h1 : RTx w0 t va vc) (h2 : D5 P w0 w bad mb (.vs pv e.vs)) (h3 : D5 P w0 w bad mb (.ls pl e.ls)) (h4 : D5 P w0 w bad mb (.k kv k)) :
    D5 P w0 w bad mb (.k (.iface 298 (.agg (evV t va vc pv pl kv))) (.emit t e :: k))
  | ana (t : Tm) (e : En) (va vc pv pl kv : Value) (k : Kt) (h1 : RTx w0 t va vc) (h2 : D5 P w0 w bad mb (.vs pv e.vs)) (h3 : D5 P w0 w bad mb (.ls pl e.ls)) (h4 : D5 P w0 w bad mb (.k kv k)) :
    D5 P w0 w bad mb (.k (.iface 295 (.agg (evV t va vc pv pl kv))) (.ana t e :: k))
  | obs (t : Tm) (e : En) (va vc pv pl kv a : Value) (l : List It) (k : Kt) (h1 : RTx w0 t va vc) (h2 : D5 P w0 w bad mb (.vs pv e.vs)) (h3 : D5 P w0 w bad mb (.ls pl e.ls)) (h4 : D5 P w0 w bad mb (.k kv k)) (h5 : D5 P w0 w bad mb (.is a l)) :
    D5 P w0 w bad mb (.k (.iface 305 (.agg (evW t va vc pv pl kv a))) (.obs t e l :: k))
  | bind (t : Tm) (e : En) (va vc pv pl kv a vt vy fv : Value) (ts : List Tm) (ys : List Int) (l : List It) (k : Kt) (h1 : RTx w0 t va vc) (h2 : D5 P w0 w bad mb (.vs pv e.vs)) (h3 : D5 P w0 w bad mb (.ls pl e.ls)) (h4 : D5 P w0 w bad mb (.k kv k))
    (h5 : D5 P w0 w bad mb (.is a l)) (h6 : RTs w0 vt ts) (h7 : RIs w bad vy ys) (h8 : ThV P w0 w bad mb (evV t va vc pv pl kv) t fv) :
    D5 P w0 w bad mb (.k (.iface 307 (.agg #[vt, vy, pv, pl, a, fv])) (.bind ts ys l t e :: k))
structure Kp (bad bad' : Nat -> Prop) (w w' : World) : Prop where
  size : w.heap.size <= w'.heap.size
  keep : ∀ b, b < w.heap.size -> ¬ bad b -> ¬ bad' b /\ w'.heap[b]? = w.heap[b]?
theorem heap_ltW {w : World} {b : Nat} {o : Obj} (h : w.heap[b]? = some o) : b < w.heap.size := (Array.getElem?_eq_some_iff.1 h).1
theorem Kp.tr {b1 b2 b3 : Nat -> Prop} {w1 w2 w3 : World} (h : Kp b1 b2 w1 w2) (k : Kp b2 b3 w2 w3) : Kp b1 b3 w1 w3 :=
  ⟨Nat.le_trans h.size k.size, fun b hb hn => ⟨(k.keep b (Nat.lt_of_lt_of_le hb h.size) (h.keep b hb hn).1).1, ((k.keep b (Nat.lt_of_lt_of_le hb h.size) (h.keep b hb hn).1).2).trans (h.keep b hb hn).2⟩⟩
theorem Kp.of_ext {bad : Nat -> Prop} {w w' : World} (h : Ext w w') : Kp bad bad w w' := ⟨h.size, fun b hb hn => ⟨hn, h.block b hb⟩⟩
section
variable {P : Pg} {w0 w w' : World} {bad bad' : Nat -> Prop} {mb : Nat}
theorem Kp.blk (h : Kp bad bad' w w') {b : Nat} {o : Obj} (hn : ¬ bad b) (hb : w.heap[b]? = some o) : ¬ bad' b /\ w'.heap[b]? = some o :=
  ⟨(h.keep b (heap_ltW hb) hn).1, ((h.keep b (heap_ltW hb) hn).2).trans hb⟩
theorem Kp.cell (h : Kp bad bad' w w') {b o : Nat} {v : Value} (hn : ¬ bad b) (hv : w.cell? ⟨b, o, none⟩ = some v) : ¬ bad' b /\ w'.cell? ⟨b, o, none⟩ = some v := by
  have hlt : b < w.heap.size := cL hv
  exact ⟨(h.keep b hlt hn).1, (World.cell?_of_block (w := w) (h.keep b hlt hn).2).trans hv⟩
theorem RIs.kp {v : Value} {l : List Int} (h : Kp bad bad' w w') (r : RIs w bad v l) : RIs w' bad' v l := by
  obtain ⟨A, c, e, h1, h2, h3⟩ := r
  refine ⟨A, c, e, h1, h2, fun i x hi => ?_⟩
  obtain ⟨b, o, e1, h4, h5⟩ := h3 i x hi
  exact ⟨b, o, e1, (h.cell h4 h5).1, (h.cell h4 h5).2⟩
theorem ThV.kp {ev : Array Value} {t : Tm} {v : Value} (h : Kp bad bad' w w') (r : ThV P w0 w bad mb ev t v) : ThV P w0 w' bad' mb ev t v := by
  cases r with
  | con be h0 h1 h2 => exact .con be h0 (h.blk h1 h2).1 (h.blk h1 h2).2
  | obs be bl h0 h1 h2 h3 h4 => exact .obs be bl h0 (h.blk h1 h2).1 (h.blk h1 h2).2 (h.blk h3 h4).1 (h.blk h3 h4).2
  | lt be h0 h1 h2 => exact .lt be h0 (h.blk h1 h2).1 (h.blk h1 h2).2
  | call bm bf be vp xa xc h0 h1 h2 h3 h4 h5 h6 h7 => exact .call bm bf be vp xa xc h0 (h.blk h1 h2).1 (h.blk h1 h2).2 (h.blk h3 h4).1 (h.blk h3 h4).2 (h.blk h5 h6).1 (h.blk h5 h6).2 h7
theorem D5.kp {x : DX} (h : Kp bad bad' w w') (r : D5 P w0 w bad mb x) : D5 P w0 w' bad' mb x := by
  induction r with
  | int n h1 => exact .int n h1
  | con ty n a l h1 h2 _ ih => exact .con ty n a l h1 h2 ih
  | obj t e va vc pv pl h1 _ _ i2 i3 => exact .obj t e va vc pv pl h1 i2 i3
  | held a x _ ih => exact .held a x ih
  | thunk t e va vc pv pl h1 _ _ i2 i3 => exact .thunk t e va vc pv pl h1 i2 i3
  | vnil => exact .vnil
  | vcons b s a p x l h0 h1 h2 _ _ i3 i4 => exact .vcons b s a p x l h0 (h.blk h1 h2).1 (h.blk h1 h2).2 i3 i4
  | lnil => exact .lnil
  | lcons b s a p x l h0 h1 h2 _ _ i3 i4 => exact .lcons b s a p x l h0 (h.blk h1 h2).1 (h.blk h1 h2).2 i3 i4
  | inil => exact .inil
  | icons b o c a l h0 h1 h2 h3 _ ih =>
    cases l with
    | nil =>
      -- an empty part of a row
      exact .icons b o c a [] h0 h1 (fun hn => absurd rfl hn) (fun i hi => by simp at hi) ih
    | cons y r => exact .icons b o c a (y :: r) h0 h1 (fun hn => (h.cell (h2 hn) (h3 0 (by simp))).1) (fun i hi => (h.cell (h2 (by simp)) (h3 i hi)).2) ih
  | fin => exact .fin
  | left t e va vc pv pl kv k h1 _ _ _ i2 i3 i4 => exact .left t e va vc pv pl kv k h1 i2 i3 i4
  | right t e n va vc pv pl kv k h0 h1 _ _ _ i2 i3 i4 => exact .right t e n va vc pv pl kv k h0 h1 i2 i3 i4
  | zero t e va vc pv pl kv k h1 _ _ _ i2 i3 i4 => exact .zero t e va vc pv pl kv k h1 i2 i3 i4
  | emit t e va vc pv pl kv k h1 _ _ _ i2 i3 i4 => exact .emit t e va vc pv pl kv k h1 i2 i3 i4
  | ana t e va vc pv pl kv k h1 _ _ _ i2 i3 i4 => exact .ana t e va vc pv pl kv k h1 i2 i3 i4
  | obs t e va vc pv pl kv a l k h1 _ _ _ _ i2 i3 i4 i5 => exact .obs t e va vc pv pl kv a l k h1 i2 i3 i4 i5
  | bind t e va vc pv pl kv a vt vy fv ts ys l k h1 _ _ _ _ h6 h7 h8 i2 i3 i4 i5 => exact .bind t e va vc pv pl kv a vt vy fv ts ys l k h1 i2 i3 i4 i5 h6 (RIs.kp h h7) (ThV.kp h h8)
end
end Go.Proofs.YtkdglplfcpindaaGreatDoor
