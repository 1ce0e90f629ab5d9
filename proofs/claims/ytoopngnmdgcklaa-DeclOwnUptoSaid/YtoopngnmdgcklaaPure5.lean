import Derived.Test.YtoopngnmdgcklaaPure4
namespace Go.Proofs.Ytoopngnmdgcklaa
open Go.RowKit

/-- A constructor that waits: where its count, its search and its declaration's number lie; whose it is; the types that it asks for. -/
structure Con where
  m : Nat
  p : Nat
  q : Nat
  i : Nat
  ts : List Nat
/-- What 'find' makes of the state. -/
def fndF (F : List Bool) (i : Nat) : List Bool := if F.getD i false then F else F.set i true
def fndQ (F : List Bool) (W : List (List Con)) (Q : List Con) (i : Nat) : List Con := if F.getD i false then Q else Q ++ W.getD i []
def misS (mis : Nat → Nat) (m k : Nat) : Nat → Nat := fun x => if x = m then k else mis x

def cnt (L : List Con) (m : Nat) : Nat := (L.filter fun d => d.m == m).length
theorem cnt_append (L M : List Con) (m : Nat) : cnt (L ++ M) m = cnt L m + cnt M m := by simp [cnt]
theorem cnt_one (c : Con) (m : Nat) : cnt [c] m = if c.m = m then 1 else 0 := by
  by_cases h : c.m = m <;> simp [cnt, h]
theorem cnt_nil (m : Nat) : cnt [] m = 0 := rfl
def sumN : Nat → (Nat → Nat) → Nat
  | 0, _ => 0
  | n + 1, f => sumN n f + f n
theorem sumN_congr {n : Nat} {f g : Nat → Nat} (h : ∀ j, j < n → f j = g j) : sumN n f = sumN n g := by
  induction n with
  | zero => rfl
  | succ n ih => simp only [sumN]; rw [ih (fun j hj => h j (by omega)), h n (by omega)]
theorem sumN_upd {n i : Nat} {f g : Nat → Nat} (hi : i < n) (h : ∀ j, j ≠ i → f j = g j) : sumN n f + g i = sumN n g + f i := by
  induction n with
  | zero => omega
  | succ n ih =>
    simp only [sumN]
    by_cases e : i = n
    · subst e
      rw [sumN_congr (fun j hj => h j (by omega))]
      omega
    · have := ih (by omega)
      have := h n (by omega)
      omega
theorem sumN_zero {n : Nat} {f : Nat → Nat} (h : ∀ j, j < n → f j = 0) : sumN n f = 0 := by
  induction n with
  | zero => rfl
  | succ n ih => simp only [sumN]; rw [ih (fun j hj => h j (by omega)), h n (by omega)]
theorem sumN_eq_zero {n : Nat} {f : Nat → Nat} (h : sumN n f = 0) : ∀ j, j < n → f j = 0 := by
  induction n with
  | zero => intro j hj; omega
  | succ n ih =>
    simp only [sumN] at h
    intro j hj
    by_cases e : j = n
    · subst e; omega
    · exact ih (by omega) j (by omega)
def opn (F : List Bool) (W : List (List Con)) (m : Nat) (j : Nat) : Nat := if F.getD j false then 0 else cnt (W.getD j []) m
/-- A set that holds whatever it must. -/
def Clo (cs : List Con) (T : Nat → Prop) : Prop := ∀ c ∈ cs, (∀ t ∈ c.ts, T t) → T c.i

structure LJ (n : Nat) (F : List Bool) (W : List (List Con)) (Q cs : List Con) (mis : Nat → Nat) : Prop where
  Fl : F.length = n
  Wl : W.length = n
  num : ∀ c ∈ cs, mis c.m = cnt Q c.m + sumN n (opn F W c.m)
  cts : ∀ c ∈ cs, ∀ j, j < n → cnt (W.getD j []) c.m = c.ts.count j
  memQ : ∀ c ∈ Q, c ∈ cs
  memW : ∀ j, ∀ c ∈ W.getD j [], c ∈ cs
  low : ∀ c ∈ cs, c.i < n ∧ ∀ t ∈ c.ts, t < n
  sound : ∀ T : Nat → Prop, Clo cs T → ∀ j, F.getD j false = true → T j
  inj : ∀ c ∈ cs, ∀ d ∈ cs, d.m = c.m → d.i = c.i
/-- What has no more to wait for is found. -/
def Fired (F : List Bool) (cs : List Con) (mis : Nat → Nat) : Prop := ∀ c ∈ cs, mis c.m = 0 → F.getD c.i false = true

theorem getD_set_same {F : List Bool} {i : Nat} (h : i < F.length) : (F.set i true).getD i false = true := by
  simp [List.getD_eq_getElem?_getD, h]
theorem getD_set_ne {F : List Bool} {i j : Nat} (h : j ≠ i) : (F.set i true).getD j false = F.getD j false := by
  simp [List.getD_eq_getElem?_getD, List.getElem?_set_ne (Ne.symm h)]
theorem fndF_len (F : List Bool) (i : Nat) : (fndF F i).length = F.length := by unfold fndF; split <;> simp
theorem fndF_mono {F : List Bool} {i j : Nat} (h : F.getD j false = true) : (fndF F i).getD j false = true := by
  unfold fndF
  split
  · exact h
  · rename_i hf
    by_cases e : j = i
    · subst e; exact absurd h hf
    · rw [getD_set_ne e]; exact h
theorem fndF_at {F : List Bool} {i : Nat} (hi : i < F.length) : (fndF F i).getD i false = true := by
  unfold fndF
  split
  · assumption
  · exact getD_set_same hi

theorem LJ.find {n : Nat} {F : List Bool} {W : List (List Con)} {Q cs : List Con} {mis : Nat → Nat} (h : LJ n F W Q cs mis) {i : Nat} (hi : i < n) (hs : ∀ T : Nat → Prop, Clo cs T → T i) :
    LJ n (fndF F i) W (fndQ F W Q i) cs mis := by
  cases hf : F.getD i false
  · have e1 : fndF F i = F.set i true := by unfold fndF; rw [hf]; rfl
    have e2 : fndQ F W Q i = Q ++ W.getD i [] := by unfold fndQ; rw [hf]; rfl
    rw [e1, e2]
    refine ⟨by simpa using h.Fl, h.Wl, fun c hc => ?_, h.cts, fun c hc => ?_, h.memW, h.low, fun T hT j hj => ?_, h.inj⟩
    · rw [h.num c hc, cnt_append]
      have hu := sumN_upd (f := opn F W c.m) (g := opn (F.set i true) W c.m) hi (fun j hj => by unfold opn; rw [getD_set_ne hj])
      have e3 : opn (F.set i true) W c.m i = 0 := by unfold opn; rw [getD_set_same (by rw [h.Fl]; exact hi)]; rfl
      have e4 : opn F W c.m i = cnt (W.getD i []) c.m := by unfold opn; rw [hf]; rfl
      omega
    · rcases List.mem_append.1 hc with h1 | h1
      · exact h.memQ c h1
      · exact h.memW i c h1
    · by_cases e : j = i
      · subst e; exact hs T hT
      · rw [getD_set_ne e] at hj; exact h.sound T hT j hj
  · have e1 : fndF F i = F := by unfold fndF; rw [hf]; rfl
    have e2 : fndQ F W Q i = Q := by unfold fndQ; rw [hf]; rfl
    rw [e1, e2]
    exact h

theorem LJ.told {n : Nat} {F : List Bool} {W : List (List Con)} {Q cs : List Con} {mis : Nat → Nat} {c : Con} (h : LJ n F W (Q ++ [c]) cs mis) (hfi : Fired F cs mis) (hc : c ∈ cs) :
    1 ≤ mis c.m ∧ LJ n (if mis c.m = 1 then fndF F c.i else F) W (if mis c.m = 1 then fndQ F W Q c.i else Q) cs (misS mis c.m (mis c.m - 1)) ∧
      Fired (if mis c.m = 1 then fndF F c.i else F) cs (misS mis c.m (mis c.m - 1)) := by
  have hm : 1 ≤ mis c.m := by
    have := h.num c hc
    rw [cnt_append, cnt_one, if_pos rfl] at this
    omega
  have h1 : LJ n F W Q cs (misS mis c.m (mis c.m - 1)) := by
    refine ⟨h.Fl, h.Wl, fun d hd => ?_, h.cts, fun d hd => h.memQ d (List.mem_append_left _ hd), h.memW, h.low, h.sound, h.inj⟩
    have hn := h.num d hd
    rw [cnt_append, cnt_one] at hn
    by_cases e : d.m = c.m
    · rw [if_pos e.symm] at hn
      have : misS mis c.m (mis c.m - 1) d.m = mis d.m - 1 := by simp [misS, e]
      rw [this]
      omega
    · rw [if_neg (fun e' => e e'.symm)] at hn
      have : misS mis c.m (mis c.m - 1) d.m = mis d.m := by simp [misS, e]
      rw [this]
      omega
  refine ⟨hm, ?_⟩
  by_cases hone : mis c.m = 1
  · rw [if_pos hone, if_pos hone]
    have hz := h1.num c hc
    have hmz : misS mis c.m (mis c.m - 1) c.m = 0 := by simp [misS, hone]
    have hall : ∀ t ∈ c.ts, F.getD t false = true := by
      intro t ht
      have hlt := (h.low c hc).2 t ht
      have h0 := sumN_eq_zero (n := n) (f := opn F W c.m) (by omega) t hlt
      cases hf : F.getD t false
      · unfold opn at h0
        rw [hf] at h0
        have h0' : cnt (W.getD t []) c.m = 0 := h0
        rw [h.cts c hc t hlt] at h0'
        exact absurd ht (List.count_eq_zero.1 h0')
      · rfl
    have hs : ∀ T : Nat → Prop, Clo cs T → T c.i := fun T hT => hT c hc fun t ht => h.sound T hT t (hall t ht)
    refine ⟨h1.find (h.low c hc).1 hs, fun d hd hd0 => ?_⟩
    by_cases e : d.m = c.m
    · by_cases e2 : d.i = c.i
      · rw [e2]; exact fndF_at (by rw [h.Fl]; exact (h.low c hc).1)
      · exact absurd (h.inj c hc d hd e) e2
    · have hd1 : misS mis c.m (mis c.m - 1) d.m = mis d.m := by simp [misS, e]
      rw [hd1] at hd0
      exact fndF_mono (hfi d hd hd0)
  · rw [if_neg hone, if_neg hone]
    refine ⟨h1, fun d hd hd0 => ?_⟩
    by_cases e : d.m = c.m
    · have : misS mis c.m (mis c.m - 1) d.m = mis c.m - 1 := by simp [misS, e]
      omega
    · have hd1 : misS mis c.m (mis c.m - 1) d.m = mis d.m := by simp [misS, e]
      rw [hd1] at hd0
      exact hfi d hd hd0

def totM (cs : List Con) (mis : Nat → Nat) : Nat := (cs.map fun c => mis c.m).sum
theorem totM_le {cs : List Con} {f g : Nat → Nat} (h : ∀ c ∈ cs, f c.m ≤ g c.m) : totM cs f ≤ totM cs g := by
  induction cs with
  | nil => exact Nat.le_refl _
  | cons c r ih =>
    have h1 := h c (List.mem_cons_self ..)
    have h2 := ih (fun d hd => h d (List.mem_cons_of_mem _ hd))
    simp only [totM, List.map_cons, List.sum_cons] at h2 ⊢
    omega
theorem totM_lt {cs : List Con} {mis : Nat → Nat} {c : Con} (hc : c ∈ cs) (hm : 1 ≤ mis c.m) : totM cs (misS mis c.m (mis c.m - 1)) < totM cs mis := by
  have hle : ∀ d : Con, misS mis c.m (mis c.m - 1) d.m ≤ mis d.m := fun d => by
    unfold misS
    split
    · rename_i e; rw [e]; omega
    · exact Nat.le_refl _
  induction cs with
  | nil => simp at hc
  | cons d r ih =>
    simp only [totM, List.map_cons, List.sum_cons]
    rcases List.mem_cons.1 hc with rfl | h
    · have h2 := totM_le (cs := r) (f := misS mis c.m (mis c.m - 1)) (g := mis) (fun d _ => hle d)
      have h3 : misS mis c.m (mis c.m - 1) c.m = mis c.m - 1 := by simp [misS]
      unfold totM at h2
      omega
    · have h2 := ih h
      have h3 := hle d
      unfold totM at h2
      omega
theorem LJ.done {n : Nat} {F : List Bool} {W : List (List Con)} {cs : List Con} {mis : Nat → Nat} (h : LJ n F W [] cs mis) (hf : Fired F cs mis) : Clo cs (fun j => F.getD j false = true) := by
  intro c hc hts
  refine hf c hc ?_
  rw [h.num c hc, cnt_nil, Nat.zero_add]
  refine sumN_zero fun j hj => ?_
  unfold opn
  split
  · rfl
  · rename_i hn
    rw [h.cts c hc j hj]
    exact List.count_eq_zero.2 fun hm => hn (hts j hm)
theorem LJ.qle {n : Nat} {F : List Bool} {W : List (List Con)} {Q cs : List Con} {mis : Nat → Nat} (h : LJ n F W Q cs mis) {c : Con} (hc : c ∈ cs) : cnt Q c.m ≤ mis c.m := by
  have := h.num c hc; omega

/-- How much is still to be told. -/
def pot (n : Nat) (F : List Bool) (W : List (List Con)) (Q : List Con) : Nat := Q.length + sumN n fun j => if F.getD j false then 0 else (W.getD j []).length
theorem pot_find {n : Nat} {F : List Bool} {W : List (List Con)} {Q : List Con} {i : Nat} (hi : i < n) (hF : F.length = n) : pot n (fndF F i) W (fndQ F W Q i) = pot n F W Q := by
  cases hf : F.getD i false
  · have e1 : fndF F i = F.set i true := by unfold fndF; rw [hf]; rfl
    have e2 : fndQ F W Q i = Q ++ W.getD i [] := by unfold fndQ; rw [hf]; rfl
    rw [e1, e2]
    have hu := sumN_upd (f := fun j => if F.getD j false then 0 else (W.getD j []).length) (g := fun j => if (F.set i true).getD j false then 0 else (W.getD j []).length) hi (fun j hj => by
      show (if F.getD j false = true then 0 else _) = (if (F.set i true).getD j false = true then 0 else _)
      rw [getD_set_ne hj])
    have e3 : (F.set i true).getD i false = true := getD_set_same (by rw [hF]; exact hi)
    simp only [e3, hf, if_true] at hu
    unfold pot
    rw [List.length_append]
    simp at hu ⊢
    omega
  · have e1 : fndF F i = F := by unfold fndF; rw [hf]; rfl
    have e2 : fndQ F W Q i = Q := by unfold fndQ; rw [hf]; rfl
    rw [e1, e2]
theorem pot_pop {n : Nat} {F : List Bool} {W : List (List Con)} {Q : List Con} {c : Con} : pot n F W (Q ++ [c]) = pot n F W Q + 1 := by
  unfold pot; rw [List.length_append]; simp; omega
theorem pot_q {n : Nat} {F : List Bool} {W : List (List Con)} {Q : List Con} : Q.length ≤ pot n F W Q := by unfold pot; omega
end Go.Proofs.Ytoopngnmdgcklaa
