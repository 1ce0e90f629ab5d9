import Derived.Test.YtoopngnmdgcklaaPure2
namespace Go.Proofs.Ytoopngnmdgcklaa
open Go.RowKit

/-! ### strings -/
def tyB (l : List Decl) (t : Int) : ByteArray := if t = 0 then ⟨#[105, 110, 116]⟩ else ((l[(t - 1).toNat]?).map Decl.name).getD ⟨#[]⟩
theorem tyB_zero (l : List Decl) : tyB l 0 = ⟨#[105, 110, 116]⟩ := by simp [tyB]
theorem tyB_in {l : List Decl} {t : Nat} (h : t < l.length) : tyB l (t + 1) = (l[t]).name := by
  unfold tyB
  have e : ((t : Int) + 1 - 1).toNat = t := by omega
  rw [if_neg (by omega), e, List.getElem?_eq_getElem h]; rfl
def sepS (i : Nat) : List UInt8 := if 0 < i then [44, 32] else []
def coS (a : Arg) : List UInt8 := if a.co then [126] else []
def argsS (l : List Decl) : Nat → List Arg → List UInt8
  | _, [] => []
  | i, a :: r => sepS i ++ coS a ++ (tyB l a.ty).data.toList ++ argsS l (i + 1) r
def xtorS (l : List Decl) (x : Xtor) : List UInt8 := x.name.data.toList ++ [40] ++ argsS l 0 x.args ++ [41]
def xtorsS (l : List Decl) : Nat → List Xtor → List UInt8
  | _, [] => []
  | i, x :: r => sepS i ++ xtorS l x ++ xtorsS l (i + 1) r
def kwB (c : Bool) : ByteArray := if c then ⟨#[99, 111, 100, 97, 116, 97, 32]⟩ else ⟨#[100, 97, 116, 97, 32]⟩
def declS (l : List Decl) (d : Decl) : List UInt8 := (kwB d.codata).data.toList ++ d.name.data.toList ++ [32, 123, 32] ++ xtorsS l 0 d.xtors ++ [32, 125, 10]
def declsS (l : List Decl) : List Decl → List UInt8
  | [] => []
  | d :: r => declS l d ++ declsS l r

/-- What the strings ask of the declarations: short names, types that are there. -/
structure Fine (l : List Decl) : Prop where
  few : l.length ≤ 8
  name : ∀ d ∈ l, d.name.size ≤ 10
  xtors : ∀ d ∈ l, d.xtors.length ≤ 6
  xname : ∀ d ∈ l, ∀ x ∈ d.xtors, x.name.size ≤ 10
  args : ∀ d ∈ l, ∀ x ∈ d.xtors, x.args.length ≤ 6
  tys : ∀ d ∈ l, ∀ x ∈ d.xtors, ∀ a ∈ x.args, 0 ≤ a.ty ∧ a.ty ≤ l.length

theorem fits_size {s : ByteArray} (h : fitsB s = true) : s.size ≤ 10 := by simp [fitsB] at h; exact h.1
theorem okXs_mem {t : Int} : ∀ {l : List Xtor} {S : List ByteArray}, okXs t S l = true → ∀ x ∈ l, x.name.size ≤ 10 ∧ x.args.length ≤ 6 ∧ ∀ a ∈ x.args, 0 ≤ a.ty ∧ a.ty ≤ t
  | [], _, _, x, hx => by simp at hx
  | y :: r, S, h, x, hx => by
    have h2 : (okX t S y && okXs t (S ++ [y.name]) r) = true := h
    simp only [Bool.and_eq_true] at h2
    rcases List.mem_cons.1 hx with rfl | hx
    · have h3 := h2.1
      simp only [okX, xtorB, Bool.and_eq_true, decide_eq_true_eq, List.all_eq_true, okTy] at h3
      exact ⟨fits_size h3.1.1.1.2, h3.1.2, h3.2⟩
    · exact okXs_mem h2.2 x hx
theorem okDs_mem {t : Int} : ∀ {l : List Decl} {S : List ByteArray}, okDs t S l = true → ∀ d ∈ l, d.name.size ≤ 10 ∧ d.xtors.length ≤ 6 ∧ ∃ S', okXs t S' d.xtors = true
  | [], _, _, x, hx => by simp at hx
  | y :: r, S, h, x, hx => by
    have h2 : (okD t S y && okDs t (addD S y) r) = true := h
    simp only [Bool.and_eq_true] at h2
    rcases List.mem_cons.1 hx with rfl | hx
    · have h3 := h2.1
      simp only [okD, nameB, Bool.and_eq_true, decide_eq_true_eq] at h3
      exact ⟨fits_size h3.1.1.1.1.1.2, h3.1.2, ⟨_, h3.2⟩⟩
    · exact okDs_mem h2.2 x hx
theorem Fine.of {l : List Decl} (h : validB l = true) : Fine l := by
  simp only [validB, Bool.and_eq_true, decide_eq_true_eq] at h
  have hm := okDs_mem h.2
  refine ⟨h.1, fun d hd => (hm d hd).1, fun d hd => (hm d hd).2.1, fun d hd x hx => ?_, fun d hd x hx => ?_, fun d hd x hx => ?_⟩
  · obtain ⟨S, hs⟩ := (hm d hd).2.2; exact (okXs_mem hs x hx).1
  · obtain ⟨S, hs⟩ := (hm d hd).2.2; exact (okXs_mem hs x hx).2.1
  · obtain ⟨S, hs⟩ := (hm d hd).2.2; exact (okXs_mem hs x hx).2.2

theorem tyB_len {l : List Decl} (h : ∀ d ∈ l, d.name.size ≤ 10) (t : Int) : (tyB l t).size ≤ 10 := by
  unfold tyB
  split
  · decide
  · cases hg : l[(t - 1).toNat]?
    · decide
    · exact h _ (List.mem_of_getElem? hg)
theorem sepS_len (i : Nat) : (sepS i).length ≤ 2 := by unfold sepS; split <;> simp
theorem coS_len (a : Arg) : (coS a).length ≤ 1 := by unfold coS; split <;> simp
theorem argsS_len {l : List Decl} (h : ∀ d ∈ l, d.name.size ≤ 10) : ∀ (r : List Arg) (i : Nat), (argsS l i r).length ≤ 13 * r.length
  | [], _ => by simp [argsS]
  | a :: r, i => by
    have h1 := argsS_len h r (i + 1)
    have h2 := sepS_len i
    have h3 := coS_len a
    have h4 := tyB_len h a.ty
    have h5 := size_toList (tyB l a.ty)
    simp only [argsS, List.length_append, List.length_cons]
    omega
theorem xtorS_len {l : List Decl} (h : ∀ d ∈ l, d.name.size ≤ 10) {x : Xtor} (hn : x.name.size ≤ 10) (ha : x.args.length ≤ 6) : (xtorS l x).length ≤ 90 := by
  have h1 := argsS_len h x.args 0
  have h2 := size_toList x.name
  simp only [xtorS, List.length_append, List.length_cons, List.length_nil]
  omega
theorem xtorsS_len {l : List Decl} (h : ∀ d ∈ l, d.name.size ≤ 10) : ∀ (r : List Xtor) (i : Nat), (∀ x ∈ r, x.name.size ≤ 10) → (∀ x ∈ r, x.args.length ≤ 6) → (xtorsS l i r).length ≤ 92 * r.length
  | [], _, _, _ => by simp [xtorsS]
  | x :: r, i, hn, ha => by
    have h1 := xtorsS_len h r (i + 1) (fun y hy => hn y (List.mem_cons_of_mem _ hy)) (fun y hy => ha y (List.mem_cons_of_mem _ hy))
    have h2 := sepS_len i
    have h3 := xtorS_len h (hn x (List.mem_cons_self ..)) (ha x (List.mem_cons_self ..))
    simp only [xtorsS, List.length_append, List.length_cons]
    omega
theorem kwB_len (c : Bool) : (kwB c).size ≤ 7 := by cases c <;> decide
theorem declS_len {l : List Decl} (h : Fine l) {d : Decl} (hd : d ∈ l) : (declS l d).length ≤ 600 := by
  have h1 := xtorsS_len h.name d.xtors 0 (h.xname d hd) (h.args d hd)
  have h2 := h.xtors d hd
  have h3 := h.name d hd
  have h4 := size_toList d.name
  have h5 := kwB_len d.codata
  have h6 := size_toList (kwB d.codata)
  simp only [declS, List.length_append, List.length_cons, List.length_nil]
  omega
end Go.Proofs.Ytoopngnmdgcklaa
