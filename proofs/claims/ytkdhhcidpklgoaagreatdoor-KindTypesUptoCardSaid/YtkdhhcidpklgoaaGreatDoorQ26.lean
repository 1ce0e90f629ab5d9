/- ref06: args: what a node asks of its children. -/
import Derived.Test.YtkdhhcidpklgoaaGreatDoorQ25
import Derived.OwnWalk
import Derived.RegionTactic
import Derived.BigQuiet
namespace Go.Proofs.YtkdhhcidpklgoaaGreatDoor
open Go.RowKit Go.Shelf
attribute [local go_sem] Oper.semAt_some

/-- What the rules ask of a node but for the scope and the children. -/
def okA (C : Cg) (op n ty : Int) : Bool := (usesN op || decide (n = 0)) && (usesT op || decide (ty = 0)) && refersB C true op n ty && !decide (sortOp op = 3)
def brsN (C : Cg) (op ty : Int) : Int := if usesB op then ((xtorsC C ty).length : Int) else 0
/-- What args answers. -/
def ArgsP (C : Cg) (op n ty : Int) (w : World) (e : Ending) (w' : World) : Prop :=
  (∃ u br, e = .returned (.tuple #[u, .int .i64 br, .bool (okA C op n ty)]) ∧ (okA C op n ty = true → RInts w' u ((wantS C op n ty).map (· + 1)) ∧ br = brsN C op ty)) ∧ Ext w w'
theorem ints_nil (w : World) : RInts w (.slice none 0 0) [] := ⟨none, 0, rfl, Nat.le_refl _, Nat.zero_le _, fun i x hx => by simp at hx⟩
theorem argsP_of {C : Cg} {op n ty : Int} {w w' : World} {e : Ending} (u : Value) (br : Int) (b : Bool) (he : e = .returned (.tuple #[u, .int .i64 br, .bool b])) (hb : b = okA C op n ty)
    (hk : RInts w' u ((wantS C op n ty).map (· + 1)) ∧ br = brsN C op ty) (hx : Ext w w') : ArgsP C op n ty w e w' := ⟨⟨u, br, by rw [he, hb], fun _ => hk⟩, hx⟩
theorem argsP_no {C : Cg} {op n ty : Int} {w w' : World} {e : Ending} (u : Value) (br : Int) (he : e = .returned (.tuple #[u, .int .i64 br, .bool false])) (hb : okA C op n ty = false)
    (hx : Ext w w') : ArgsP C op n ty w e w' := ⟨⟨u, br, by rw [he, hb], fun h => by rw [hb] at h; cases h⟩, hx⟩
/-- A slice that the call made. -/
theorem ints_made {w : World} {b T : Nat} {l : List Int} (h : w.heap[b]? = some (.cells (l.map (Value.int .i64)).toArray T (0, 0))) (hok : ∀ x ∈ l, ok64 x) (hl : l.length ≤ maxLen) : RInts w (.slice (some ⟨b, 0, none⟩) l.length l.length) l :=
  ⟨_, _, rfl, Nat.le_refl _, hl, fun i a hi => ⟨b, 0, rfl, heap_lt h, by
    rw [Nat.zero_add]
    exact cellAt h i (by simp [hi]), hok a (List.mem_of_getElem? hi)⟩⟩
theorem okA_0 (C : Cg) (n ty : Int) : okA C 0 n ty = (decide (ty = 0) && (decide (0 ≤ n) && decide (n ≤ 1048576))) := by
  simp [okA, usesN, usesT, refersB, isNumB, isTypeC, sortOp, Bool.and_assoc, Bool.and_comm, Bool.and_left_comm]
set_option maxHeartbeats 8000000 in
set_option maxRecDepth 100000 in
theorem args6_0 (vd vf : Value) (C : Cg) (n ty : Int) (xa xb : Value) (w : World) (hd : RDecls w vd C.decls) :
    Calls Tryz.prog 56 #[cV vd vf, .agg #[.int .i64 0, .int .i64 n, .int .i64 ty, xa, xb]] w (ArgsP C 0 n ty w) := by
  obtain ⟨Ad, cd, rfl, hcd, hmd⟩ := hd.form
  unfold maxLen at hmd
  clear hd
  have HE2 := Lib.hid (fun (o1 o2 : Obj) => Ext.al2 w o1 o2)
  go_enter Tryz.func56, Tryz.ntmps56
  go_wp2
  all_goals
    refine bodyPost_ret (results_tmp3 rfl _ _ _) rfl ?_
    refine argsP_of _ _ _ rfl ?_ ⟨ints_nil _, rfl⟩ (by first | exact HE2.out _ _ | exact (HE2.out _ _).drewN _)
    rw [Bool.eq_iff_iff, okA_0]
    (first | (simp; done) | (simp; omega))
theorem okA_5 (C : Cg) (n ty : Int) : okA C 5 n ty = (decide (ty = 0) && (decide (0 ≤ n) && decide (n ≤ 1048576))) := by
  simp [okA, usesN, usesT, refersB, isNumB, isTypeC, sortOp, Bool.and_assoc, Bool.and_comm, Bool.and_left_comm]
set_option maxHeartbeats 8000000 in
set_option maxRecDepth 100000 in
theorem args6_5 (vd vf : Value) (C : Cg) (n ty : Int) (xa xb : Value) (w : World) (hd : RDecls w vd C.decls) :
    Calls Tryz.prog 56 #[cV vd vf, .agg #[.int .i64 5, .int .i64 n, .int .i64 ty, xa, xb]] w (ArgsP C 5 n ty w) := by
  obtain ⟨Ad, cd, rfl, hcd, hmd⟩ := hd.form
  unfold maxLen at hmd
  clear hd
  have HE2 := Lib.hid (fun (o1 o2 : Obj) => Ext.al2 w o1 o2)
  go_enter Tryz.func56, Tryz.ntmps56
  go_wp2
  all_goals
    refine bodyPost_ret (results_tmp3 rfl _ _ _) rfl ?_
    refine argsP_of _ _ _ rfl ?_ ⟨ints_nil _, rfl⟩ (by first | exact HE2.out _ _ | exact (HE2.out _ _).drewN _)
    rw [Bool.eq_iff_iff, okA_5]
    (first | (simp; done) | (simp; omega))
theorem okA_1 (C : Cg) (n ty : Int) : okA C 1 n ty = (decide (ty = 0)) := by
  simp [okA, usesN, usesT, refersB, isNumB, isTypeC, sortOp, Bool.and_assoc, Bool.and_comm, Bool.and_left_comm]
set_option maxHeartbeats 8000000 in
set_option maxRecDepth 100000 in
theorem args6_1 (vd vf : Value) (C : Cg) (n ty : Int) (xa xb : Value) (w : World) (hd : RDecls w vd C.decls) :
    Calls Tryz.prog 56 #[cV vd vf, .agg #[.int .i64 1, .int .i64 n, .int .i64 ty, xa, xb]] w (ArgsP C 1 n ty w) := by
  obtain ⟨Ad, cd, rfl, hcd, hmd⟩ := hd.form
  unfold maxLen at hmd
  clear hd
  have HE2 := Lib.hid (fun (o1 o2 : Obj) => Ext.al2 w o1 o2)
  go_enter Tryz.func56, Tryz.ntmps56
  go_wp2
  all_goals
    go_region
    all_goals go_wp2
  all_goals
    refine bodyPost_ret (results_tmp3 rfl _ _ _) rfl ?_
    refine argsP_of _ _ _ rfl ?_ ⟨ints_nil _, rfl⟩ (by first | exact HE2.out _ _ | exact (HE2.out _ _).drewN _)
    rw [Bool.eq_iff_iff, okA_1]
    (first | (simp; done) | (simp; omega))
theorem okA_3 (C : Cg) (n ty : Int) : okA C 3 n ty = ((decide (0 ≤ n) && decide (n ≤ 1048576)) && (decide (0 ≤ ty) && decide (ty ≤ C.decls.length))) := by
  simp [okA, usesN, usesT, refersB, isNumB, isTypeC, sortOp, Bool.and_assoc, Bool.and_comm, Bool.and_left_comm]
set_option maxHeartbeats 8000000 in
set_option maxRecDepth 100000 in
theorem args6_3 (vd vf : Value) (C : Cg) (n ty : Int) (xa xb : Value) (w : World) (hd : RDecls w vd C.decls) :
    Calls Tryz.prog 56 #[cV vd vf, .agg #[.int .i64 3, .int .i64 n, .int .i64 ty, xa, xb]] w (ArgsP C 3 n ty w) := by
  obtain ⟨Ad, cd, rfl, hcd, hmd⟩ := hd.form
  unfold maxLen at hmd
  clear hd
  have HE2 := Lib.hid (fun (o1 o2 : Obj) => Ext.al2 w o1 o2)
  go_enter Tryz.func56, Tryz.ntmps56
  go_wp2
  all_goals
    refine bodyPost_ret (results_tmp3 rfl _ _ _) rfl ?_
    refine argsP_of _ _ _ rfl ?_ ⟨ints_made (l := [3]) (heapNew3 _ _ _ _) (by intro x hx; simp at hx; rcases hx with rfl | rfl | rfl <;> rfl) (by decide), rfl⟩ (by first | exact (HE2.out _ _).tr (Ext.al _ _) | exact ((HE2.out _ _).tr (Ext.al _ _)).drewN _)
    rw [Bool.eq_iff_iff, okA_3]
    (first | (simp; done) | (simp; omega))
theorem okA_7 (C : Cg) (n ty : Int) : okA C 7 n ty = ((decide (0 ≤ n) && decide (n ≤ 1048576)) && (decide (0 ≤ ty) && decide (ty ≤ C.decls.length))) := by
  simp [okA, usesN, usesT, refersB, isNumB, isTypeC, sortOp, Bool.and_assoc, Bool.and_comm, Bool.and_left_comm]
set_option maxHeartbeats 8000000 in
set_option maxRecDepth 100000 in
theorem args6_7 (vd vf : Value) (C : Cg) (n ty : Int) (xa xb : Value) (w : World) (hd : RDecls w vd C.decls) :
    Calls Tryz.prog 56 #[cV vd vf, .agg #[.int .i64 7, .int .i64 n, .int .i64 ty, xa, xb]] w (ArgsP C 7 n ty w) := by
  obtain ⟨Ad, cd, rfl, hcd, hmd⟩ := hd.form
  unfold maxLen at hmd
  clear hd
  have HE2 := Lib.hid (fun (o1 o2 : Obj) => Ext.al2 w o1 o2)
  go_enter Tryz.func56, Tryz.ntmps56
  go_wp2
  all_goals
    refine bodyPost_ret (results_tmp3 rfl _ _ _) rfl ?_
    refine argsP_of _ _ _ rfl ?_ ⟨ints_made (l := [3]) (heapNew3 _ _ _ _) (by intro x hx; simp at hx; rcases hx with rfl | rfl | rfl <;> rfl) (by decide), rfl⟩ (by first | exact (HE2.out _ _).tr (Ext.al _ _) | exact ((HE2.out _ _).tr (Ext.al _ _)).drewN _)
    rw [Bool.eq_iff_iff, okA_7]
    (first | (simp; done) | (simp; omega))
end Go.Proofs.YtkdhhcidpklgoaaGreatDoor

/- ref06: args: what a node asks of its children: the commands. -/
namespace Go.Proofs.YtkdhhcidpklgoaaGreatDoor
open Go.RowKit Go.Shelf
attribute [local go_sem] Oper.semAt_some

theorem okA_9 (C : Cg) (n ty : Int) : okA C 9 n ty = (decide (n = 0) && (decide (0 ≤ ty) && decide (ty ≤ C.decls.length))) := by
  simp [okA, usesN, usesT, refersB, isNumB, isTypeC, sortOp, Bool.and_assoc, Bool.and_comm, Bool.and_left_comm]
set_option maxHeartbeats 8000000 in
set_option maxRecDepth 100000 in
theorem args6_9 (vd vf : Value) (C : Cg) (n ty : Int) (xa xb : Value) (w : World) (hd : RDecls w vd C.decls) :
    Calls Tryz.prog 56 #[cV vd vf, .agg #[.int .i64 9, .int .i64 n, .int .i64 ty, xa, xb]] w (ArgsP C 9 n ty w) := by
  obtain ⟨Ad, cd, rfl, hcd, hmd⟩ := hd.form
  unfold maxLen at hmd
  clear hd
  have HE2 := Lib.hid (fun (o1 o2 : Obj) => Ext.al2 w o1 o2)
  clear hcd
  go_enter Tryz.func56, Tryz.ntmps56
  by_cases h1 : 0 ≤ ty <;> by_cases h2 : ty ≤ C.decls.length
  all_goals try (exfalso; omega)
  all_goals
    (first | have e1 : decide (0 ≤ ty) = true := decide_eq_true h1 | have e1 : decide (0 ≤ ty) = false := decide_eq_false h1)
    (first | have e2 : decide (ty ≤ (C.decls.length : Int)) = true := decide_eq_true h2 | have e2 : decide (ty ≤ (C.decls.length : Int)) = false := decide_eq_false h2)
    go_wp2
  all_goals try (go_region; all_goals go_wp2)
  all_goals
    refine bodyPost_ret (results_tmp3 rfl _ _ _) rfl ?_
    refine argsP_of _ _ _ rfl ?_ ⟨ints_made (l := [1, 2]) (heapNew3 _ _ _ _) (by intro x hx; simp at hx; rcases hx with rfl | rfl | rfl <;> rfl) (by decide), rfl⟩ (by first | exact (HE2.out _ _).tr (Ext.al _ _) | exact ((HE2.out _ _).tr (Ext.al _ _)).drewN _)
    rw [Bool.eq_iff_iff, okA_9]
    (first | (simp; done) | (simp; omega))
theorem okA_10 (C : Cg) (n ty : Int) : okA C 10 n ty = (decide (ty = 0) && (decide (0 ≤ n) && decide (n < 7))) := by
  simp [okA, usesN, usesT, refersB, isNumB, isTypeC, sortOp, Bool.and_assoc, Bool.and_comm, Bool.and_left_comm]
set_option maxHeartbeats 8000000 in
set_option maxRecDepth 100000 in
theorem args6_10 (vd vf : Value) (C : Cg) (n ty : Int) (xa xb : Value) (w : World) (hd : RDecls w vd C.decls) :
    Calls Tryz.prog 56 #[cV vd vf, .agg #[.int .i64 10, .int .i64 n, .int .i64 ty, xa, xb]] w (ArgsP C 10 n ty w) := by
  obtain ⟨Ad, cd, rfl, hcd, hmd⟩ := hd.form
  unfold maxLen at hmd
  clear hd
  have HE2 := Lib.hid (fun (o1 o2 : Obj) => Ext.al2 w o1 o2)
  clear hcd
  go_enter Tryz.func56, Tryz.ntmps56
  by_cases h1 : ty = 0 <;> by_cases h2 : 0 ≤ n
  all_goals
    first | subst h1 | have e1 : (ty == 0) = false := by simpa using h1
    first | have e2 : decide (0 ≤ n) = true := decide_eq_true h2 | have e2 : decide (0 ≤ n) = false := decide_eq_false h2
    go_wp2
  all_goals try (go_region; all_goals go_wp2)
  all_goals
    refine bodyPost_ret (results_tmp3 rfl _ _ _) rfl ?_
    refine argsP_of _ _ _ rfl ?_ ⟨ints_made (l := [1, 1, 2]) (heapNew3 _ _ _ _) (by intro x hx; simp at hx; rcases hx with rfl | rfl | rfl <;> rfl) (by decide), rfl⟩ (by first | exact (HE2.out _ _).tr (Ext.al _ _) | exact ((HE2.out _ _).tr (Ext.al _ _)).drewN _)
    rw [Bool.eq_iff_iff, okA_10]
    (first | (simp; done) | (simp; omega))
theorem okA_11 (C : Cg) (n ty : Int) : okA C 11 n ty = (decide (n = 0) && decide (ty = 0)) := by
  simp [okA, usesN, usesT, refersB, isNumB, isTypeC, sortOp, Bool.and_assoc, Bool.and_comm, Bool.and_left_comm]
set_option maxHeartbeats 8000000 in
set_option maxRecDepth 100000 in
theorem args6_11 (vd vf : Value) (C : Cg) (n ty : Int) (xa xb : Value) (w : World) (hd : RDecls w vd C.decls) :
    Calls Tryz.prog 56 #[cV vd vf, .agg #[.int .i64 11, .int .i64 n, .int .i64 ty, xa, xb]] w (ArgsP C 11 n ty w) := by
  obtain ⟨Ad, cd, rfl, hcd, hmd⟩ := hd.form
  unfold maxLen at hmd
  clear hd
  have HE2 := Lib.hid (fun (o1 o2 : Obj) => Ext.al2 w o1 o2)
  clear hcd
  go_enter Tryz.func56, Tryz.ntmps56
  by_cases h1 : ty = 0
  all_goals
    first | subst h1 | have e1 : (ty == 0) = false := by simpa using h1
    go_wp2
  all_goals try (go_region; all_goals go_wp2)
  all_goals
    refine bodyPost_ret (results_tmp3 rfl _ _ _) rfl ?_
    refine argsP_of _ _ _ rfl ?_ ⟨ints_made (l := [1, 3, 3]) (heapNew3 _ _ _ _) (by intro x hx; simp at hx; rcases hx with rfl | rfl | rfl <;> rfl) (by decide), rfl⟩ (by first | exact (HE2.out _ _).tr (Ext.al _ _) | exact ((HE2.out _ _).tr (Ext.al _ _)).drewN _)
    rw [Bool.eq_iff_iff, okA_11]
    (first | (simp; done) | (simp; omega))
theorem okA_12 (C : Cg) (n ty : Int) : okA C 12 n ty = (decide (n = 0) && decide (ty = 0)) := by
  simp [okA, usesN, usesT, refersB, isNumB, isTypeC, sortOp, Bool.and_assoc, Bool.and_comm, Bool.and_left_comm]
set_option maxHeartbeats 8000000 in
set_option maxRecDepth 100000 in
theorem args6_12 (vd vf : Value) (C : Cg) (n ty : Int) (xa xb : Value) (w : World) (hd : RDecls w vd C.decls) :
    Calls Tryz.prog 56 #[cV vd vf, .agg #[.int .i64 12, .int .i64 n, .int .i64 ty, xa, xb]] w (ArgsP C 12 n ty w) := by
  obtain ⟨Ad, cd, rfl, hcd, hmd⟩ := hd.form
  unfold maxLen at hmd
  clear hd
  have HE2 := Lib.hid (fun (o1 o2 : Obj) => Ext.al2 w o1 o2)
  clear hcd
  go_enter Tryz.func56, Tryz.ntmps56
  by_cases h1 : ty = 0
  all_goals
    first | subst h1 | have e1 : (ty == 0) = false := by simpa using h1
    go_wp2
  all_goals try (go_region; all_goals go_wp2)
  all_goals
    refine bodyPost_ret (results_tmp3 rfl _ _ _) rfl ?_
    refine argsP_of _ _ _ rfl ?_ ⟨ints_made (l := [1, 3]) (heapNew3 _ _ _ _) (by intro x hx; simp at hx; rcases hx with rfl | rfl | rfl <;> rfl) (by decide), rfl⟩ (by first | exact (HE2.out _ _).tr (Ext.al _ _) | exact ((HE2.out _ _).tr (Ext.al _ _)).drewN _)
    rw [Bool.eq_iff_iff, okA_12]
    (first | (simp; done) | (simp; omega))
theorem okA_14 (C : Cg) (n ty : Int) : okA C 14 n ty = (decide (n = 0) && decide (ty = 0)) := by
  simp [okA, usesN, usesT, refersB, isNumB, isTypeC, sortOp, Bool.and_assoc, Bool.and_comm, Bool.and_left_comm]
set_option maxHeartbeats 8000000 in
set_option maxRecDepth 100000 in
theorem args6_14 (vd vf : Value) (C : Cg) (n ty : Int) (xa xb : Value) (w : World) (hd : RDecls w vd C.decls) :
    Calls Tryz.prog 56 #[cV vd vf, .agg #[.int .i64 14, .int .i64 n, .int .i64 ty, xa, xb]] w (ArgsP C 14 n ty w) := by
  obtain ⟨Ad, cd, rfl, hcd, hmd⟩ := hd.form
  unfold maxLen at hmd
  clear hd
  have HE2 := Lib.hid (fun (o1 o2 : Obj) => Ext.al2 w o1 o2)
  clear hcd
  go_enter Tryz.func56, Tryz.ntmps56
  by_cases h1 : ty = 0
  all_goals
    first | subst h1 | have e1 : (ty == 0) = false := by simpa using h1
    go_wp2
  all_goals try (go_region; all_goals go_wp2)
  all_goals
    refine bodyPost_ret (results_tmp3 rfl _ _ _) rfl ?_
    refine argsP_of _ _ _ rfl ?_ ⟨ints_made (l := [1]) (heapNew3 _ _ _ _) (by intro x hx; simp at hx; rcases hx with rfl | rfl | rfl <;> rfl) (by decide), rfl⟩ (by first | exact (HE2.out _ _).tr (Ext.al _ _) | exact ((HE2.out _ _).tr (Ext.al _ _)).drewN _)
    rw [Bool.eq_iff_iff, okA_14]
    (first | (simp; done) | (simp; omega))
end Go.Proofs.YtkdhhcidpklgoaaGreatDoor

/- ref06: args: matches. -/
namespace Go.Proofs.YtkdhhcidpklgoaaGreatDoor
open Go.RowKit Go.Shelf
attribute [local go_sem] Oper.semAt_some

theorem codB_decls (C : Cg) (ty : Int) : codB C.decls ty = declsC C ty true := by
  by_cases h : 1 ≤ ty ∧ ty ≤ C.decls.length
  · obtain ⟨u, rfl⟩ : ∃ u : Nat, ty = u + 1 := ⟨(ty - 1).toNat, by omega⟩
    have hu : u < C.decls.length := by omega
    rw [codB_in hu, declsC_in hu]
    cases (C.decls[u]).codata <;> rfl
  · rw [codB_out h, declsC_out h]
set_option maxRecDepth 100000 in
theorem RData_any (v : Value) (C : Cg) (t : Int) (w : World) (h : RDecls w v C.decls) :
    Calls Tryz.prog 88 #[v, .int .i64 t] w fun e w' => e = .returned (.bool (declsC C t false)) ∧ w = w' := by
  have HR := Lib.hid h
  obtain ⟨A, c, rfl, hc, hm⟩ := h.form
  clear h
  unfold maxLen at hm
  by_cases hr : 1 ≤ t ∧ t ≤ C.decls.length
  · obtain ⟨u, hu⟩ : ∃ u : Nat, t = u + 1 := ⟨(t - 1).toNat, by omega⟩
    subst hu
    have hul : u < C.decls.length := by omega
    clear hr
    have HI := Lib.hid (declsC_in (co := false) hul)
    obtain ⟨b, o, vx, rfl, hbl, h0, h1, h2, h3, h4⟩ := HR.out.at_ hul
    clear h3
    generalize C.decls[u] = d at *
    have e1 : (u : Int) + 1 - 1 = u := by omega
    go_enter Tryz.func88, Tryz.ntmps88
    go_wp2
    go_ret
    exact ⟨ret_bool (by rw [HI.out]; cases d.codata <;> rfl), rfl⟩
  · have HI := Lib.hid (declsC_out (C := C) (co := false) hr)
    by_cases h1 : 1 ≤ t
    all_goals
      have hn1 : t < 1 ∨ (C.decls.length : Int) < t := by omega
      clear hr
      go_enter Tryz.func88, Tryz.ntmps88
      go_wp2
      go_ret
      exact ⟨ret_bool HI.out.symm, rfl⟩
theorem okA_4 (C : Cg) (n ty : Int) : okA C 4 n ty = (decide (n = 0) && declsC C ty true) := by
  simp [okA, usesN, usesT, refersB, sortOp]
theorem okA_8 (C : Cg) (n ty : Int) : okA C 8 n ty = (decide (n = 0) && declsC C ty false) := by
  simp [okA, usesN, usesT, refersB, sortOp]
/-- A declaration that is there. -/
theorem decls_range {C : Cg} {ty : Int} {co : Bool} (h : declsC C ty co = true) : ∃ u : Nat, ty = u + 1 ∧ u < C.decls.length := by
  by_cases hr : 1 ≤ ty ∧ ty ≤ C.decls.length
  · exact ⟨(ty - 1).toNat, by omega, by omega⟩
  · rw [declsC_out hr] at h; cases h
set_option maxHeartbeats 8000000 in
set_option maxRecDepth 100000 in
theorem args6_4 (vd vf : Value) (C : Cg) (n ty : Int) (xa xb : Value) (w : World) (hd : RDecls w vd C.decls) :
    Calls Tryz.prog 56 #[cV vd vf, .agg #[.int .i64 4, .int .i64 n, .int .i64 ty, xa, xb]] w (ArgsP C 4 n ty w) := by
  have HDW := Lib.hid (fun (w' : World) (hx : Ext w w') => by
    have := RCodata_any vd C.decls ty w' (hd.below hx)
    rw [codB_decls] at this
    exact this)
  have HR := Lib.hid hd
  obtain ⟨Ad, cd, rfl, hcd, hmd⟩ := hd.form
  unfold maxLen at hmd
  clear hd
  have HE2 := Lib.hid (fun (o1 o2 : Obj) => Ext.al2 w o1 o2)
  have HOK := Lib.hid (okA_4 C n ty)
  cases hq : declsC C ty true
  · rw [hq] at HDW HOK
    have HNO : Hid (okA C 4 n ty = false) := by show _ = _; rw [HOK.out, Bool.and_false]
    clear hq hcd
    by_cases h1 : 0 ≤ ty <;> by_cases h2 : 0 ≤ n
    all_goals
      go_enter Tryz.func56, Tryz.ntmps56
      go_wp2_with (go_at_call 85; (with_reducible refine (HDW.out _ (HE2.out _ _)).mono ?_); rintro e w3 ⟨rfl, rfl⟩)
    all_goals
      refine bodyPost_ret (results_tmp3 rfl _ _ _) rfl ?_
      exact argsP_no _ _ rfl HNO.out (by first | exact HE2.out _ _ | exact (HE2.out _ _).drewN _)
  · obtain ⟨u, rfl, hu⟩ := decls_range hq
    rw [hq] at HDW HOK
    have HX : Hid (brsN C 4 ((u : Int) + 1) = ((C.decls[u]).xtors.length : Int)) := by show brsN C 4 _ = _; unfold brsN xtorsC; rw [declC_in hu]; rfl
    obtain ⟨b, o, vx, rfl, hbl, h0, h1, h2, h3, h4⟩ := HR.out.at_ hu
    obtain ⟨Ax, cx, rfl, hcx, hmx⟩ := h3.form
    unfold maxLen at hmx
    generalize C.decls[u] = d at *
    clear hq h3 h0 h1 h4
    have h2 := (HE2.out (.cells #[.slice (some ⟨b, o, none⟩) C.decls.length cd, vf] 25) (.cells #[.int .i64 4, .int .i64 n, .int .i64 ((u : Int) + 1), xa, xb] 36)).keep h2
    have H2 : Hid (World.cell? ((w.alloc (.cells #[.slice (some ⟨b, o, none⟩) C.decls.length cd, vf] 25)).alloc (.cells #[.int .i64 4, .int .i64 n, .int .i64 ((u : Int) + 1), xa, xb] 36)).drew ⟨b, o + u * 3 + 2, none⟩ = some (.slice Ax d.xtors.length cx)) := h2
    have h2d := H2.out
    have e1 : (u : Int) + 1 - 1 = u := by omega
    have hu1 : 0 ≤ (u : Int) + 1 := by omega
    have hu2 : (u : Int) + 1 ≤ C.decls.length := by omega
    have hu3 : (u : Int) < C.decls.length := by omega
    by_cases hn : n = 0
    · have HYES : Hid (okA C 4 n ((u : Int) + 1) = true) := by show _ = _; rw [HOK.out, hn]; rfl
      subst hn
      go_enter Tryz.func56, Tryz.ntmps56
      go_wp2_with (go_at_call 85; (with_reducible refine (HDW.out _ (HE2.out _ _)).mono ?_); rintro e w3 ⟨rfl, rfl⟩)
      all_goals
        go_region
        all_goals go_wp2
      all_goals
        refine bodyPost_ret (results_tmp3 rfl _ _ _) rfl ?_
        exact argsP_of _ _ _ rfl HYES.out.symm ⟨ints_nil _, HX.out.symm⟩ (by first | exact HE2.out _ _ | exact (HE2.out _ _).drewN _)
    · have HNO : Hid (okA C 4 n ((u : Int) + 1) = false) := by show _ = _; rw [HOK.out, decide_eq_false hn]; rfl
      have e2 : (n == 0) = false := by simpa using hn
      have e3 : (n != 0) = true := by simpa using hn
      go_enter Tryz.func56, Tryz.ntmps56
      go_wp2_with (go_at_call 85; (with_reducible refine (HDW.out _ (HE2.out _ _)).mono ?_); rintro e w3 ⟨rfl, rfl⟩)
      all_goals
        refine bodyPost_ret (results_tmp3 rfl _ _ _) rfl ?_
        exact argsP_no _ _ rfl HNO.out (by first | exact HE2.out _ _ | exact (HE2.out _ _).drewN _)
set_option maxHeartbeats 8000000 in
set_option maxRecDepth 100000 in
theorem args6_8 (vd vf : Value) (C : Cg) (n ty : Int) (xa xb : Value) (w : World) (hd : RDecls w vd C.decls) :
    Calls Tryz.prog 56 #[cV vd vf, .agg #[.int .i64 8, .int .i64 n, .int .i64 ty, xa, xb]] w (ArgsP C 8 n ty w) := by
  have HDW := Lib.hid (fun (w' : World) (hx : Ext w w') => RData_any vd C ty w' (hd.below hx))
  have HR := Lib.hid hd
  obtain ⟨Ad, cd, rfl, hcd, hmd⟩ := hd.form
  unfold maxLen at hmd
  clear hd
  have HE2 := Lib.hid (fun (o1 o2 : Obj) => Ext.al2 w o1 o2)
  have HOK := Lib.hid (okA_8 C n ty)
  cases hq : declsC C ty false
  · rw [hq] at HDW HOK
    have HNO : Hid (okA C 8 n ty = false) := by show _ = _; rw [HOK.out, Bool.and_false]
    clear hq hcd
    by_cases h1 : 0 ≤ ty <;> by_cases h2 : 0 ≤ n
    all_goals
      go_enter Tryz.func56, Tryz.ntmps56
      go_wp2_with (go_at_call 88; (with_reducible refine (HDW.out _ (HE2.out _ _)).mono ?_); rintro e w3 ⟨rfl, rfl⟩)
    all_goals
      refine bodyPost_ret (results_tmp3 rfl _ _ _) rfl ?_
      exact argsP_no _ _ rfl HNO.out (by first | exact HE2.out _ _ | exact (HE2.out _ _).drewN _)
  · obtain ⟨u, rfl, hu⟩ := decls_range hq
    rw [hq] at HDW HOK
    have HX : Hid (brsN C 8 ((u : Int) + 1) = ((C.decls[u]).xtors.length : Int)) := by show brsN C 8 _ = _; unfold brsN xtorsC; rw [declC_in hu]; rfl
    obtain ⟨b, o, vx, rfl, hbl, h0, h1, h2, h3, h4⟩ := HR.out.at_ hu
    obtain ⟨Ax, cx, rfl, hcx, hmx⟩ := h3.form
    unfold maxLen at hmx
    generalize C.decls[u] = d at *
    clear hq h3 h0 h1 h4
    have h2 := (HE2.out (.cells #[.slice (some ⟨b, o, none⟩) C.decls.length cd, vf] 25) (.cells #[.int .i64 8, .int .i64 n, .int .i64 ((u : Int) + 1), xa, xb] 36)).keep h2
    have H2 : Hid (World.cell? ((w.alloc (.cells #[.slice (some ⟨b, o, none⟩) C.decls.length cd, vf] 25)).alloc (.cells #[.int .i64 8, .int .i64 n, .int .i64 ((u : Int) + 1), xa, xb] 36)).drew ⟨b, o + u * 3 + 2, none⟩ = some (.slice Ax d.xtors.length cx)) := h2
    have h2d := H2.out
    have e1 : (u : Int) + 1 - 1 = u := by omega
    have hu1 : 0 ≤ (u : Int) + 1 := by omega
    have hu2 : (u : Int) + 1 ≤ C.decls.length := by omega
    have hu3 : (u : Int) < C.decls.length := by omega
    by_cases hn : n = 0
    · have HYES : Hid (okA C 8 n ((u : Int) + 1) = true) := by show _ = _; rw [HOK.out, hn]; rfl
      subst hn
      go_enter Tryz.func56, Tryz.ntmps56
      go_wp2_with (go_at_call 88; (with_reducible refine (HDW.out _ (HE2.out _ _)).mono ?_); rintro e w3 ⟨rfl, rfl⟩)
      all_goals
        go_region
        all_goals go_wp2
      all_goals
        refine bodyPost_ret (results_tmp3 rfl _ _ _) rfl ?_
        exact argsP_of _ _ _ rfl HYES.out.symm ⟨ints_nil _, HX.out.symm⟩ (by first | exact HE2.out _ _ | exact (HE2.out _ _).drewN _)
    · have HNO : Hid (okA C 8 n ((u : Int) + 1) = false) := by show _ = _; rw [HOK.out, decide_eq_false hn]; rfl
      have e2 : (n == 0) = false := by simpa using hn
      have e3 : (n != 0) = true := by simpa using hn
      go_enter Tryz.func56, Tryz.ntmps56
      go_wp2_with (go_at_call 88; (with_reducible refine (HDW.out _ (HE2.out _ _)).mono ?_); rintro e w3 ⟨rfl, rfl⟩)
      all_goals
        refine bodyPost_ret (results_tmp3 rfl _ _ _) rfl ?_
        exact argsP_no _ _ rfl HNO.out (by first | exact HE2.out _ _ | exact (HE2.out _ _).drewN _)
end Go.Proofs.YtkdhhcidpklgoaaGreatDoor

/- ref06: args: xtors, calls, and what is no operator. -/
namespace Go.Proofs.YtkdhhcidpklgoaaGreatDoor
open Go.RowKit Go.Shelf
attribute [local go_sem] Oper.semAt_some

theorem okA_2 (C : Cg) (n ty : Int) : okA C 2 n ty = (declsC C ty false && isIdxC n (xtorsC C ty).length) := by
  simp [okA, usesN, usesT, refersB, sortOp]
theorem okA_6 (C : Cg) (n ty : Int) : okA C 6 n ty = (declsC C ty true && isIdxC n (xtorsC C ty).length) := by
  simp [okA, usesN, usesT, refersB, sortOp]
theorem okA_13 (C : Cg) (n ty : Int) : okA C 13 n ty = (decide (ty = 0) && isIdxC n C.funs.length) := by
  simp [okA, usesN, usesT, refersB, sortOp]
theorem hasI_decls {C : Cg} {ty : Int} {co : Bool} (h : declsC C ty co = true) (n : Int) : hasI C.decls ty n = isIdxC n (xtorsC C ty).length := by
  obtain ⟨u, rfl, hu⟩ := decls_range h
  unfold xtorsC isIdxC
  rw [declC_in hu]
  by_cases h0 : 0 ≤ n
  · rw [hasI_in hu h0, decide_eq_true h0]; rfl
  · rw [hasI_neg h0, decide_eq_false h0]; rfl
theorem kinds_wantS (C : Cg) (op n ty : Int) (h : op = 2 ∨ op = 6 ∨ op = 13) : (wantS C op n ty).map (· + 1) = (hdArgs C op n ty).map kindA := by
  unfold wantS
  rw [if_pos h, List.map_map]
  rfl
/-- No operator. -/
theorem okA_no {C : Cg} {op n ty : Int} (h : sortOp op = 3) : okA C op n ty = false := by unfold okA; rw [h]; simp
set_option maxHeartbeats 8000000 in
set_option maxRecDepth 100000 in
theorem args6_no (vd vf : Value) (C : Cg) (op n ty : Int) (xa xb : Value) (w : World) (hd : RDecls w vd C.decls) (hop : op < 0 ∨ 14 < op) :
    Calls Tryz.prog 56 #[cV vd vf, .agg #[.int .i64 op, .int .i64 n, .int .i64 ty, xa, xb]] w (ArgsP C op n ty w) := by
  have hso : sortOp op = 3 := by
    unfold sortOp
    rcases hop with h | h
    · rw [if_pos h]
    · rw [if_neg (by omega), if_neg (by omega), if_neg (by omega), if_neg (by omega)]
  have HNO := Lib.hid (okA_no (C := C) (n := n) (ty := ty) hso)
  obtain ⟨Ad, cd, rfl, hcd, hmd⟩ := hd.form
  unfold maxLen at hmd
  clear hd hso hcd
  have HE2 := Lib.hid (fun (o1 o2 : Obj) => Ext.al2 w o1 o2)
  have e0 : (op == 0) = false := by simp; omega
  have e1 : (op == 1) = false := by simp; omega
  have e2 : (op == 2) = false := by simp; omega
  have e3 : (op == 3) = false := by simp; omega
  have e4 : (op == 4) = false := by simp; omega
  have e5 : (op == 5) = false := by simp; omega
  have e6 : (op == 6) = false := by simp; omega
  have e7 : (op == 7) = false := by simp; omega
  have e8 : (op == 8) = false := by simp; omega
  have e9 : (op == 9) = false := by simp; omega
  have e10 : (op == 10) = false := by simp; omega
  have e11 : (op == 11) = false := by simp; omega
  have e12 : (op == 12) = false := by simp; omega
  have e13 : (op == 13) = false := by simp; omega
  have e14 : (op == 14) = false := by simp; omega
  clear hop
  by_cases h1 : 0 ≤ ty <;> by_cases h2 : 0 ≤ n
  all_goals
    go_enter Tryz.func56, Tryz.ntmps56
    go_wp2
  all_goals
    refine bodyPost_ret (results_tmp3 rfl _ _ _) rfl ?_
    exact argsP_no _ _ rfl HNO.out (by first | exact HE2.out _ _ | exact (HE2.out _ _).drewN _)
end Go.Proofs.YtkdhhcidpklgoaaGreatDoor

/- ref06: args: xtors. -/
namespace Go.Proofs.YtkdhhcidpklgoaaGreatDoor
open Go.RowKit Go.Shelf
attribute [local go_sem] Oper.semAt_some

set_option maxHeartbeats 16000000 in
set_option maxRecDepth 100000 in
theorem args6_2 (vd vf : Value) (C : Cg) (n ty : Int) (xa xb : Value) (w : World) (hd : RDecls w vd C.decls) (hS : ∀ d ∈ C.decls, ∀ x ∈ d.xtors, x.args.length ≤ 1048576) :
    Calls Tryz.prog 56 #[cV vd vf, .agg #[.int .i64 2, .int .i64 n, .int .i64 ty, xa, xb]] w (ArgsP C 2 n ty w) := by
  have HC : Hid (∀ (w2 : World), Ext w w2 → ∀ m, Calls Tryz.prog 85 #[vd, .int .i64 ty] (w2.drewN m) fun e w' => e = .returned (.bool (codB C.decls ty)) ∧ w' = w2.drewN m) := fun w2 hx m =>
    (RCodata_any vd C.decls ty (w2.drewN m) (hd.below (hx.drewN m))).mono fun e w' h => ⟨h.1, h.2.symm⟩
  have HH : Hid (∀ (w2 : World), Ext w w2 → ∀ m, Calls Tryz.prog 86 #[vd, .int .i64 ty, .int .i64 n] (w2.drewN m) fun e w' => e = .returned (.bool (hasI C.decls ty n)) ∧ w' = w2.drewN m) := fun w2 hx m =>
    (RHas_any vd C.decls ty n (w2.drewN m) (hd.below (hx.drewN m))).mono fun e w' h => ⟨h.1, h.2.symm⟩
  have HR := Lib.hid hd
  have HS := Lib.hid hS
  obtain ⟨Ad, cd, rfl, hcd, hmd⟩ := hd.form
  unfold maxLen at hmd
  clear hd hS
  have hx2 := Ext.al2 w (.cells #[.slice Ad C.decls.length cd, vf] 25) (.cells #[.int .i64 2, .int .i64 n, .int .i64 ty, xa, xb] 36)
  have hb1 := Ext.lt (Ext.al (w.alloc (.cells #[.slice Ad C.decls.length cd, vf] 25)) (.cells #[.int .i64 2, .int .i64 n, .int .i64 ty, xa, xb] 36)) (heapNew w (.cells #[.slice Ad C.decls.length cd, vf] 25))
  have hb2 := heapNew2 w (.cells #[.slice Ad C.decls.length cd, vf] 25) (.cells #[.int .i64 2, .int .i64 n, .int .i64 ty, xa, xb] 36)
  have HX2 := Lib.hid hx2; have HB1 := Lib.hid hb1; have HB2 := Lib.hid hb2
  have HOK := Lib.hid (okA_2 C n ty)
  have HCD := Lib.hid (codB_decls C ty)
  clear hx2 hb1 hb2
  cases hq : codB C.decls ty == false
  · have hc : codB C.decls ty = true := by revert hq; cases codB C.decls ty <;> simp
    have HNO : Hid (okA C 2 n ty = false) := by
      show _ = _
      rw [HOK.out]
      have hcd2 := HCD.out
      rw [hc] at hcd2
      have h3 : declsC C ty false = false := by
        by_cases hr : 1 ≤ ty ∧ ty ≤ C.decls.length
        · obtain ⟨u, rfl⟩ : ∃ u : Nat, ty = u + 1 := ⟨(ty - 1).toNat, by omega⟩
          have hu : u < C.decls.length := by omega
          rw [declsC_in hu] at hcd2 ⊢
          revert hcd2; cases (C.decls[u]).codata <;> simp
        · exact declsC_out hr
      rw [h3]; rfl
    have HC2 := HC.out
    rw [hc] at HC2
    have HC3 := Lib.hid HC2
    clear HC2 hc hq hcd
    by_cases h1 : 0 ≤ ty <;> by_cases h2 : 0 ≤ n
    all_goals
      go_enter Tryz.func56, Tryz.ntmps56
      go_wp2
      generalize (w.alloc _).alloc _ = w2 at *
      have b0 := cellAt HB1.out 0
      have n0 := cellAt HB2.out 0
      have n1 := cellAt HB2.out 1
      have n2 := cellAt HB2.out 2
      go_quiet ((go_at_call 85; exact Calls.quiet_of_same (HC3.out _ HX2.out _)))
      go_wp2
    all_goals
      refine bodyPost_ret (results_tmp3 rfl _ _ _) rfl ?_
      exact argsP_no _ _ rfl HNO.out (HX2.out.drewN _)
  · have hc : codB C.decls ty = false := by revert hq; cases codB C.decls ty <;> simp
    have HC2 := HC.out
    rw [hc] at HC2
    have HC3 := Lib.hid HC2
    clear HC2
    cases hh : hasI C.decls ty n
    · have HNO : Hid (okA C 2 n ty = false) := by
        show _ = _
        rw [HOK.out]
        cases hdc : declsC C ty false
        · rfl
        · rw [← hasI_decls hdc n, hh]; rfl
      have HH2 := HH.out
      rw [hh] at HH2
      have HH3 := Lib.hid HH2
      clear HH2 hc hq hcd hh
      by_cases h1 : 0 ≤ ty <;> by_cases h2 : 0 ≤ n
      all_goals
        go_enter Tryz.func56, Tryz.ntmps56
        go_wp2
        generalize (w.alloc _).alloc _ = w2 at *
        have b0 := cellAt HB1.out 0
        have n0 := cellAt HB2.out 0
        have n1 := cellAt HB2.out 1
        have n2 := cellAt HB2.out 2
        go_quiet (first
          | (go_at_call 85; exact Calls.quiet_of_same (HC3.out _ HX2.out _))
          | (go_at_call 86; exact Calls.quiet_of_same (HH3.out _ HX2.out _))
          | fail "none")
        go_wp2
      all_goals
        refine bodyPost_ret (results_tmp3 rfl _ _ _) rfl ?_
        exact argsP_no _ _ rfl HNO.out (HX2.out.drewN _)
    · have hr : 1 ≤ ty ∧ ty ≤ C.decls.length := by
        by_cases hr : 1 ≤ ty ∧ ty ≤ C.decls.length
        · exact hr
        · rw [hasI_out hr] at hh; cases hh
      obtain ⟨u, rfl⟩ : ∃ u : Nat, ty = u + 1 := ⟨(ty - 1).toNat, by omega⟩
      have hu : u < C.decls.length := by omega
      have hdc : declsC C ((u : Int) + 1) false = true := by
        rw [codB_in hu] at hc
        rw [declsC_in hu, hc]; rfl
      have hix := hh
      rw [hasI_decls hdc] at hix
      obtain ⟨m, rfl⟩ : ∃ m : Nat, n = m := ⟨n.toNat, by unfold isIdxC at hix; simp at hix; omega⟩
      have HYES : Hid (okA C 2 m ((u : Int) + 1) = true) := by show _ = _; rw [HOK.out, hdc, hix]; rfl
      have hml : m < (C.decls[u]).xtors.length := by
        unfold isIdxC xtorsC at hix
        rw [declC_in hu] at hix
        simp at hix
        exact hix
      have HH2 := HH.out
      rw [hh] at HH2
      have HH3 := Lib.hid HH2
      have HWA : Hid ((wantS C 2 m ((u : Int) + 1)).map (· + 1) = ((C.decls[u]).xtors[m]).args.map kindA) := by
        show _ = _
        rw [kinds_wantS C 2 m _ (by omega)]
        congr 1
        unfold hdArgs xtorsC
        rw [if_pos (by omega), declC_in hu]
        have e : ((m : Int)).toNat = m := by omega
        rw [e, List.getD_eq_getElem?_getD, List.getElem?_eq_getElem hml]; rfl
      obtain ⟨b, o, vx, rfl, hbl, h0, h1, h2, h3, h4⟩ := HR.out.at_ hu
      obtain ⟨Ax, cx, rfl, hcx, hmx⟩ := h3.form
      unfold maxLen at hmx
      obtain ⟨b', o', va, rfl, hbl', x0, x1, x2, x3⟩ := h3.at_ hml
      have hla := HS.out _ (List.getElem_mem hu) _ (List.getElem_mem hml)
      have HK : Hid (∀ W, Ext w W → Calls Tryz.prog 87 #[va] W fun e w' => (∃ z, e = .returned z ∧ RInts w' z (((C.decls[u]).xtors[m]).args.map kindA)) ∧ Ext W w') := fun W hW => kinds6_any va _ W (x2.below hW) hla
      clear h0 h1 h3 h4 x0 x2 x3 hla HH2 hc hq hh hix hdc hr
      generalize ((C.decls[u]).xtors[m]).args = ags at *
      generalize (C.decls[u]).xtors.length = nx at *
      have e1 : (u : Int) + 1 - 1 = u := by omega
      have hw1 : IntKind.wrap .i64 ((u : Int) + 1 - 1) = u := by rw [e1]; exact IntWalk.i64_in _ (by omega)
      have hw2 : IntKind.wrap .i64 (u : Int) = u := IntWalk.i64_in _ (by omega)
      have hu1 : 0 ≤ (u : Int) + 1 := by omega
      have hu2 : (u : Int) + 1 ≤ C.decls.length := by omega
      have hu3 : (u : Int) < C.decls.length := by omega
      have hm1 : 0 ≤ (m : Int) := by omega
      have hm3 : (m : Int) < nx := by omega
      go_enter Tryz.func56, Tryz.ntmps56
      go_wp2
      generalize (w.alloc _).alloc _ = w2 at *
      have b0 := cellAt HB1.out 0
      have n0 := cellAt HB2.out 0
      have n1 := cellAt HB2.out 1
      have n2 := cellAt HB2.out 2
      have h2 := HX2.out.keep h2
      have x1 := HX2.out.keep x1
      go_quiet (first
        | (go_at_call 85; exact Calls.quiet_of_same (HC3.out _ HX2.out _))
        | (go_at_call 86; exact Calls.quiet_of_same (HH3.out _ HX2.out _))
        | fail "none")
      go_wp2
      go_region_with (go_at_call 87; (with_reducible refine (HK.out _ (HX2.out.drewN _)).mono ?_); rintro e w5 ⟨⟨u5, rfl, hu5⟩, hx5⟩)
      all_goals go_wp2
      all_goals
        refine bodyPost_ret (results_tmp3 rfl _ _ _) rfl ?_
        exact argsP_of _ _ _ rfl HYES.out.symm ⟨by rw [HWA.out]; exact hu5, rfl⟩ ((HX2.out.drewN _).tr hx5)
set_option maxHeartbeats 16000000 in
set_option maxRecDepth 100000 in
theorem args6_6 (vd vf : Value) (C : Cg) (n ty : Int) (xa xb : Value) (w : World) (hd : RDecls w vd C.decls) (hS : ∀ d ∈ C.decls, ∀ x ∈ d.xtors, x.args.length ≤ 1048576) :
    Calls Tryz.prog 56 #[cV vd vf, .agg #[.int .i64 6, .int .i64 n, .int .i64 ty, xa, xb]] w (ArgsP C 6 n ty w) := by
  have HC : Hid (∀ (w2 : World), Ext w w2 → ∀ m, Calls Tryz.prog 85 #[vd, .int .i64 ty] (w2.drewN m) fun e w' => e = .returned (.bool (codB C.decls ty)) ∧ w' = w2.drewN m) := fun w2 hx m =>
    (RCodata_any vd C.decls ty (w2.drewN m) (hd.below (hx.drewN m))).mono fun e w' h => ⟨h.1, h.2.symm⟩
  have HH : Hid (∀ (w2 : World), Ext w w2 → ∀ m, Calls Tryz.prog 86 #[vd, .int .i64 ty, .int .i64 n] (w2.drewN m) fun e w' => e = .returned (.bool (hasI C.decls ty n)) ∧ w' = w2.drewN m) := fun w2 hx m =>
    (RHas_any vd C.decls ty n (w2.drewN m) (hd.below (hx.drewN m))).mono fun e w' h => ⟨h.1, h.2.symm⟩
  have HR := Lib.hid hd
  have HS := Lib.hid hS
  obtain ⟨Ad, cd, rfl, hcd, hmd⟩ := hd.form
  unfold maxLen at hmd
  clear hd hS
  have hx2 := Ext.al2 w (.cells #[.slice Ad C.decls.length cd, vf] 25) (.cells #[.int .i64 6, .int .i64 n, .int .i64 ty, xa, xb] 36)
  have hb1 := Ext.lt (Ext.al (w.alloc (.cells #[.slice Ad C.decls.length cd, vf] 25)) (.cells #[.int .i64 6, .int .i64 n, .int .i64 ty, xa, xb] 36)) (heapNew w (.cells #[.slice Ad C.decls.length cd, vf] 25))
  have hb2 := heapNew2 w (.cells #[.slice Ad C.decls.length cd, vf] 25) (.cells #[.int .i64 6, .int .i64 n, .int .i64 ty, xa, xb] 36)
  have HX2 := Lib.hid hx2; have HB1 := Lib.hid hb1; have HB2 := Lib.hid hb2
  have HOK := Lib.hid (okA_6 C n ty)
  have HCD := Lib.hid (codB_decls C ty)
  clear hx2 hb1 hb2
  cases hq : codB C.decls ty == true
  · have hc : codB C.decls ty = false := by revert hq; cases codB C.decls ty <;> simp
    have HNO : Hid (okA C 6 n ty = false) := by
      show _ = _
      rw [HOK.out]
      have hcd2 := HCD.out
      rw [hc] at hcd2
      rw [← hcd2]; rfl
    have HC2 := HC.out
    rw [hc] at HC2
    have HC3 := Lib.hid HC2
    clear HC2 hc hq hcd
    by_cases h1 : 0 ≤ ty <;> by_cases h2 : 0 ≤ n
    all_goals
      go_enter Tryz.func56, Tryz.ntmps56
      go_wp2
      generalize (w.alloc _).alloc _ = w2 at *
      have b0 := cellAt HB1.out 0
      have n0 := cellAt HB2.out 0
      have n1 := cellAt HB2.out 1
      have n2 := cellAt HB2.out 2
      go_quiet ((go_at_call 85; exact Calls.quiet_of_same (HC3.out _ HX2.out _)))
      go_wp2
    all_goals
      refine bodyPost_ret (results_tmp3 rfl _ _ _) rfl ?_
      exact argsP_no _ _ rfl HNO.out (HX2.out.drewN _)
  · have hc : codB C.decls ty = true := by revert hq; cases codB C.decls ty <;> simp
    have HC2 := HC.out
    rw [hc] at HC2
    have HC3 := Lib.hid HC2
    clear HC2
    cases hh : hasI C.decls ty n
    · have HNO : Hid (okA C 6 n ty = false) := by
        show _ = _
        rw [HOK.out]
        cases hdc : declsC C ty true
        · rfl
        · rw [← hasI_decls hdc n, hh]; rfl
      have HH2 := HH.out
      rw [hh] at HH2
      have HH3 := Lib.hid HH2
      clear HH2 hc hq hcd hh
      by_cases h1 : 0 ≤ ty <;> by_cases h2 : 0 ≤ n
      all_goals
        go_enter Tryz.func56, Tryz.ntmps56
        go_wp2
        generalize (w.alloc _).alloc _ = w2 at *
        have b0 := cellAt HB1.out 0
        have n0 := cellAt HB2.out 0
        have n1 := cellAt HB2.out 1
        have n2 := cellAt HB2.out 2
        go_quiet (first
          | (go_at_call 85; exact Calls.quiet_of_same (HC3.out _ HX2.out _))
          | (go_at_call 86; exact Calls.quiet_of_same (HH3.out _ HX2.out _))
          | fail "none")
        go_wp2
      all_goals
        refine bodyPost_ret (results_tmp3 rfl _ _ _) rfl ?_
        exact argsP_no _ _ rfl HNO.out (HX2.out.drewN _)
    · have hr : 1 ≤ ty ∧ ty ≤ C.decls.length := by
        by_cases hr : 1 ≤ ty ∧ ty ≤ C.decls.length
        · exact hr
        · rw [hasI_out hr] at hh; cases hh
      obtain ⟨u, rfl⟩ : ∃ u : Nat, ty = u + 1 := ⟨(ty - 1).toNat, by omega⟩
      have hu : u < C.decls.length := by omega
      have hdc : declsC C ((u : Int) + 1) true = true := by
        rw [codB_in hu] at hc
        rw [declsC_in hu, hc]; rfl
      have hix := hh
      rw [hasI_decls hdc] at hix
      obtain ⟨m, rfl⟩ : ∃ m : Nat, n = m := ⟨n.toNat, by unfold isIdxC at hix; simp at hix; omega⟩
      have HYES : Hid (okA C 6 m ((u : Int) + 1) = true) := by show _ = _; rw [HOK.out, hdc, hix]; rfl
      have hml : m < (C.decls[u]).xtors.length := by
        unfold isIdxC xtorsC at hix
        rw [declC_in hu] at hix
        simp at hix
        exact hix
      have HH2 := HH.out
      rw [hh] at HH2
      have HH3 := Lib.hid HH2
      have HWA : Hid ((wantS C 6 m ((u : Int) + 1)).map (· + 1) = ((C.decls[u]).xtors[m]).args.map kindA) := by
        show _ = _
        rw [kinds_wantS C 6 m _ (by omega)]
        congr 1
        unfold hdArgs xtorsC
        rw [if_pos (by omega), declC_in hu]
        have e : ((m : Int)).toNat = m := by omega
        rw [e, List.getD_eq_getElem?_getD, List.getElem?_eq_getElem hml]; rfl
      obtain ⟨b, o, vx, rfl, hbl, h0, h1, h2, h3, h4⟩ := HR.out.at_ hu
      obtain ⟨Ax, cx, rfl, hcx, hmx⟩ := h3.form
      unfold maxLen at hmx
      obtain ⟨b', o', va, rfl, hbl', x0, x1, x2, x3⟩ := h3.at_ hml
      have hla := HS.out _ (List.getElem_mem hu) _ (List.getElem_mem hml)
      have HK : Hid (∀ W, Ext w W → Calls Tryz.prog 87 #[va] W fun e w' => (∃ z, e = .returned z ∧ RInts w' z (((C.decls[u]).xtors[m]).args.map kindA)) ∧ Ext W w') := fun W hW => kinds6_any va _ W (x2.below hW) hla
      clear h0 h1 h3 h4 x0 x2 x3 hla HH2 hc hq hh hix hdc hr
      generalize ((C.decls[u]).xtors[m]).args = ags at *
      generalize (C.decls[u]).xtors.length = nx at *
      have e1 : (u : Int) + 1 - 1 = u := by omega
      have hw1 : IntKind.wrap .i64 ((u : Int) + 1 - 1) = u := by rw [e1]; exact IntWalk.i64_in _ (by omega)
      have hw2 : IntKind.wrap .i64 (u : Int) = u := IntWalk.i64_in _ (by omega)
      have hu1 : 0 ≤ (u : Int) + 1 := by omega
      have hu2 : (u : Int) + 1 ≤ C.decls.length := by omega
      have hu3 : (u : Int) < C.decls.length := by omega
      have hm1 : 0 ≤ (m : Int) := by omega
      have hm3 : (m : Int) < nx := by omega
      go_enter Tryz.func56, Tryz.ntmps56
      go_wp2
      generalize (w.alloc _).alloc _ = w2 at *
      have b0 := cellAt HB1.out 0
      have n0 := cellAt HB2.out 0
      have n1 := cellAt HB2.out 1
      have n2 := cellAt HB2.out 2
      have h2 := HX2.out.keep h2
      have x1 := HX2.out.keep x1
      go_quiet (first
        | (go_at_call 85; exact Calls.quiet_of_same (HC3.out _ HX2.out _))
        | (go_at_call 86; exact Calls.quiet_of_same (HH3.out _ HX2.out _))
        | fail "none")
      go_wp2
      go_region_with (go_at_call 87; (with_reducible refine (HK.out _ (HX2.out.drewN _)).mono ?_); rintro e w5 ⟨⟨u5, rfl, hu5⟩, hx5⟩)
      all_goals go_wp2
      all_goals
        refine bodyPost_ret (results_tmp3 rfl _ _ _) rfl ?_
        exact argsP_of _ _ _ rfl HYES.out.symm ⟨by rw [HWA.out]; exact hu5, rfl⟩ ((HX2.out.drewN _).tr hx5)
end Go.Proofs.YtkdhhcidpklgoaaGreatDoor
