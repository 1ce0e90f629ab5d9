import Derived.Test.YtoopngnmdgcklaaIs
namespace Go.Proofs.Ytoopngnmdgcklaa
open Go.RowKit

theorem beqL {a b : List UInt8} (h : (a == b) = true) : a = b := by simpa using h
theorem apart {a b : ByteArray} (ha : nameB a = true) (hb : xtorB b = true) : (a.toList == b.toList) = false := by
  cases h : (a.toList == b.toList)
  · rfl
  · have e := beqL h
    rw [ByteArray.toList_eq, ByteArray.toList_eq] at e
    have e2 : headI a = headI b := by unfold headI; rw [e]
    simp only [nameB, xtorB, Bool.and_eq_true] at ha hb
    have h1 := ha.1.1.2
    have h2 := hb.1.2
    rw [e2] at h1
    simp [lowB] at h1
    simp [upB] at h2
    omega
theorem beq_comm' (a b : List UInt8) : (a == b) = (b == a) := by
  rw [Bool.eq_iff_iff]; simp only [beq_iff_eq]; exact eq_comm

structure Inv (S : List ByteArray) (P : List Decl) (X : List ByteArray) : Prop where
  has : ∀ k, hasS S k = (prevB P k || hasS X k)
  low : ∀ e ∈ P, nameB e.name = true
  up : ∀ x ∈ X, xtorB x = true
theorem hasS_append (S T : List ByteArray) (k : ByteArray) : hasS (S ++ T) k = (hasS S k || hasS T k) := by simp [hasS]
theorem prevB_append (P Q : List Decl) (k : ByteArray) : prevB (P ++ Q) k = (prevB P k || prevB Q k) := by simp [prevB]
theorem Inv.noX {S : List ByteArray} {P : List Decl} {X : List ByteArray} (h : Inv S P X) {k : ByteArray} (hk : nameB k = true) : hasS X k = false := by
  unfold hasS
  rw [List.any_eq_false]
  intro x hx
  rw [apart hk (h.up x hx)]
  simp
theorem Inv.noP {S : List ByteArray} {P : List Decl} {X : List ByteArray} (h : Inv S P X) {k : ByteArray} (hk : xtorB k = true) : prevB P k = false := by
  unfold prevB
  rw [List.any_eq_false]
  intro e he
  rw [apart (h.low e he) hk]
  simp
theorem Inv.addD2 {S : List ByteArray} {P : List Decl} {X : List ByteArray} (h : Inv S P X) {d : Decl} (hk : nameB d.name = true) : Inv (S ++ [d.name]) (P ++ [d]) X where
  has k := by
    rw [hasS_append, prevB_append, h.has]
    have : hasS [d.name] k = prevB [d] k := by simp [hasS, prevB, beq_comm']
    rw [this]
    cases prevB P k <;> cases hasS X k <;> cases prevB [d] k <;> rfl
  low e he := by
    rcases List.mem_append.1 he with h1 | h1
    · exact h.low e h1
    · rw [List.mem_singleton.1 h1]; exact hk
  up := h.up
theorem Inv.addX {S : List ByteArray} {P : List Decl} {X : List ByteArray} (h : Inv S P X) {x : ByteArray} (hk : xtorB x = true) : Inv (S ++ [x]) P (X ++ [x]) where
  has k := by rw [hasS_append, hasS_append, h.has, Bool.or_assoc]
  low := h.low
  up y hy := by
    rcases List.mem_append.1 hy with h1 | h1
    · exact h.up y h1
    · rw [List.mem_singleton.1 h1]; exact hk
theorem okX_isX {S : List ByteArray} {P : List Decl} {X : List ByteArray} (h : Inv S P X) (t : Int) (x : Xtor) : okX t S x = isX t X x := by
  unfold okX isX
  cases hk : xtorB x.name
  · simp
  · rw [h.has, h.noP hk]
    cases hasS X x.name <;> cases decide (x.args.length ≤ 6) <;> rfl
theorem okXs_isXs (t : Int) : ∀ (l : List Xtor) {S : List ByteArray} {P : List Decl} {X : List ByteArray}, Inv S P X → okXs t S l = isXs t X l ∧ (isXs t X l = true → Inv (addXs S l) P (addXs X l))
  | [], S, P, X, h => ⟨rfl, fun _ => by rw [addXs_nil, addXs_nil]; exact h⟩
  | x :: r, S, P, X, h => by
    rw [okXs_cons, isXs_cons, addXs_cons, addXs_cons, okX_isX h]
    cases hx : isX t X x
    · exact ⟨by simp, by simp⟩
    · have hk : xtorB x.name = true := by simp only [isX, Bool.and_eq_true] at hx; exact hx.1.1.1
      have ih := okXs_isXs t r (h.addX hk)
      exact ⟨by simpa using ih.1, by simpa using ih.2⟩
theorem okDs_isDs (t : Int) : ∀ (l : List Decl) {S : List ByteArray} {P : List Decl} {X : List ByteArray}, Inv S P X → okDs t S l = isDs t P X l
  | [], _, _, _, _ => rfl
  | d :: r, S, P, X, h => by
    rw [okDs_cons, isDs_cons]
    cases hk : nameB d.name
    · rw [okD_bad1 hk, isD_bad1 hk]; rfl
    · by_cases h6 : 1 ≤ d.xtors.length ∧ d.xtors.length ≤ 6
      · have h2 := okXs_isXs t d.xtors (h.addD2 hk)
        have hs : hasS S d.name = prevB P d.name := by rw [h.has, h.noX hk, Bool.or_false]
        cases hp : prevB P d.name
        · rw [okD_good hk (hs.trans hp) h6.1 h6.2, isD_good hk h6 hp, h2.1]
          cases hx : isXs t X d.xtors
          · rfl
          · have := okDs_isDs t r (h2.2 hx)
            simp only [Bool.true_and]
            exact this
        · rw [okD_bad2 (hs.trans hp), isD_bad3 hp]; rfl
      · rw [okD_bad3 h6, isD_bad2 h6]; rfl
theorem valid_is (l : List Decl) : validB l = isB l := by
  unfold validB isB
  rw [okDs_isDs (S := []) (P := []) (X := []) _ l ⟨fun _ => rfl, by simp, by simp⟩]
end Go.Proofs.Ytoopngnmdgcklaa
