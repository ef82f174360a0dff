/-
  Layer 10 (locks): the reference's Do, case by case (numbers; Try, Free, Owner).
  Conditions: those that each theorem states.
-/
import Derived.Test.YtdpoigeeechchaaRLk
namespace Go.Proofs.Ytdpoigeeechchaa
open Go.ChangeShapes Go.WideShapes Go.ChangeAt Go.RowKit

theorem ck_core {C n : Nat} {c i : Int} (h : ckC C c = 3) : ck C n c i = 3 := by unfold ck; rw [if_neg (by omega)]; exact h
theorem ck_lock {C n : Nat} {c i : Int} (h : ckC C c = 0) : ck C n c i = ckL n i := by unfold ck; rw [if_pos h]
theorem num0_bad {C : Nat} {l : List Int} {c i e : Int} (h : ck C l.length c i = e) (he : e ≠ 0) : dL C l 0 c i = l ∧ dX C l 0 c i = 0 ∧ dE C l 0 c i = e := by
  have h1 : ¬ (ck C l.length c i = 0 ∧ l[i.toNat]? = some (-1)) := fun x => he (h ▸ x.1)
  refine ⟨by simp only [dL, if_true]; unfold tryL; rw [if_neg h1], ?_, by simp only [dE, if_true]; exact h⟩
  simp only [dX, if_true]
  unfold tryB
  rw [decide_eq_false h1]
  simp
theorem num0_taken {C : Nat} {l : List Int} {c x : Int} {k : Nat} (h : ck C l.length c k = 0) (hx : l[k]? = some x) (hn : x ≠ -1) : dL C l 0 c k = l ∧ dX C l 0 c k = 0 ∧ dE C l 0 c k = 0 := by
  have h1 : ¬ (ck C l.length c k = 0 ∧ l[(k : Int).toNat]? = some (-1)) := fun e => hn (by have := hx.symm.trans (by simpa using e.2); injection this)
  refine ⟨by simp only [dL, if_true]; unfold tryL; rw [if_neg h1], ?_, by simp only [dE, if_true]; exact h⟩
  simp only [dX, if_true]
  unfold tryB
  rw [decide_eq_false h1]
  simp
theorem num0_free {C : Nat} {l : List Int} {c : Int} {k : Nat} (h : ck C l.length c k = 0) (hx : l[k]? = some (-1)) : dL C l 0 c k = l.set k c ∧ dX C l 0 c k = 1 ∧ dE C l 0 c k = 0 := by
  have h1 : ck C l.length c k = 0 ∧ l[(k : Int).toNat]? = some (-1) := ⟨h, by simpa using hx⟩
  refine ⟨by simp only [dL, if_true]; unfold tryL; rw [if_pos h1]; simp, ?_, by simp only [dE, if_true]; exact h⟩
  simp only [dX, if_true]
  unfold tryB
  rw [decide_eq_true h1]
  simp
theorem num1_bad {C : Nat} {l : List Int} {c i e : Int} (h : ck C l.length c i = e) (he : e ≠ 0) : dL C l 1 c i = l ∧ dX C l 1 c i = 0 ∧ dE C l 1 c i = e := by
  have h1 : ¬ (ck C l.length c i = 0 ∧ l[i.toNat]? = some c) := fun x => he (h ▸ x.1)
  refine ⟨?_, by simp [dX], ?_⟩
  · simp only [dL, if_true, if_neg (show ¬ (1 : Int) = 0 from by decide)]; unfold freeL; rw [if_neg h1]
  · simp only [dE, if_true, if_neg (show ¬ (1 : Int) = 0 from by decide)]; unfold freeE; rw [if_neg (by rw [h]; exact he)]; exact h
theorem num1_no {C : Nat} {l : List Int} {c x : Int} {k : Nat} (h : ck C l.length c k = 0) (hx : l[k]? = some x) (hn : x ≠ c) : dL C l 1 c k = l ∧ dX C l 1 c k = 0 ∧ dE C l 1 c k = 12 := by
  have h1 : ¬ l[(k : Int).toNat]? = some c := fun e => hn (by have := hx.symm.trans (by simpa using e); injection this)
  refine ⟨?_, by simp [dX], ?_⟩
  · simp only [dL, if_true, if_neg (show ¬ (1 : Int) = 0 from by decide)]; unfold freeL; rw [if_neg (fun e => h1 e.2)]
  · simp only [dE, if_true, if_neg (show ¬ (1 : Int) = 0 from by decide)]; unfold freeE; rw [if_pos h, if_neg h1]
theorem num1_yes {C : Nat} {l : List Int} {c : Int} {k : Nat} (h : ck C l.length c k = 0) (hx : l[k]? = some c) : dL C l 1 c k = l.set k (-1) ∧ dX C l 1 c k = 0 ∧ dE C l 1 c k = 0 := by
  have h1 : ck C l.length c k = 0 ∧ l[(k : Int).toNat]? = some c := ⟨h, by simpa using hx⟩
  refine ⟨?_, by simp [dX], ?_⟩
  · simp only [dL, if_true, if_neg (show ¬ (1 : Int) = 0 from by decide)]; unfold freeL; rw [if_pos h1]; simp
  · simp only [dE, if_true, if_neg (show ¬ (1 : Int) = 0 from by decide)]; unfold freeE; rw [if_pos h, if_pos h1.2]
theorem num3_bad {C : Nat} {l : List Int} {c i : Int} (h : ckC C c = 3) : dL C l 3 c i = l ∧ dX C l 3 c i = 0 ∧ dE C l 3 c i = 3 := by
  refine ⟨by simp [dL, relL, h], by simp [dX, heldA, h], by simp [dE, h]⟩
theorem num3_ok {C : Nat} {l : List Int} {c i : Int} (h : ckC C c = 0) : dL C l 3 c i = freeAll l (heldN l c l.length) ∧ dX C l 3 c i = ((heldL l c l.length).length : Int) ∧ dE C l 3 c i = 0 := by
  refine ⟨by simp [dL, relL, h], by simp [dX, heldA, h], by simp [dE, h]⟩
theorem numD_bad {C : Nat} {l : List Int} {K c i : Int} (h0 : K ≠ 0) (h1 : K ≠ 1) (h3 : K ≠ 3) (h : ckL l.length i = 2) : dL C l K c i = l ∧ dX C l K c i = 0 ∧ dE C l K c i = 2 := by
  refine ⟨by simp [dL, h0, h1, h3], by simp [dX, h0, h1, h3, ownV, h], by simp [dE, h0, h1, h3, h]⟩
theorem numD_ok {C : Nat} {l : List Int} {K c x : Int} {k : Nat} (h0 : K ≠ 0) (h1 : K ≠ 1) (h3 : K ≠ 3) (h : ckL l.length k = 0) (hx : l[k]? = some x) : dL C l K c k = l ∧ dX C l K c k = x ∧ dE C l K c k = 0 := by
  refine ⟨by simp [dL, h0, h1, h3], by simp [dX, h0, h1, h3, ownV, h, hx], by simp [dE, h0, h1, h3, h]⟩

set_option linter.unusedVariables false in
set_option maxRecDepth 100000 in
set_option maxHeartbeats 2000000 in
theorem rdo10_0nn (P : Nat → Prop) (C : Nat) (v : Value) (l : List Int) (c : Int) (i : Int) (w : World) (hv : Lies w P v (ints l)) (hcap : CapOk v) (hl : l.length ≤ 16) (hok : ∀ (i : Nat) (x : Int), l[i]? = some x → OwnOk C x) (hP : ∀ b, w.heap.size ≤ b → P b) (q : c < 0) (r : i < 0) :
    Calls Try.prog 10 #[rbankV C v, opV10 0 c i] w (RBankP P C (dL C l 0 c i) [.int .i64 (dX C l 0 c i), .int .i64 (dE C l 0 c i)] w) := by
  obtain ⟨e1, e2, e3⟩ := num0_bad (l := l) (i := i) (ck_core (n := l.length) (ckC_no (.inl q))) (by decide)
  rw [e1, e2, e3]
  clear e1 e2 e3
  obtain ⟨A, n, cc, rfl, HN, HV⟩ := hv.open10
  have d1 : decide (0 ≤ c) = false := by simp; omega
  have r1 : decide (0 ≤ i) = false := by simp; omega
  clear hv hok hP hl
  unfold rbankV opV10
  go_enter Try.func10, Try.ntmps10
  go_wp2
  exact bodyPost_ret (v := .tuple #[.agg #[.int .i64 C, .slice A n cc], .int .i64 0, .int .i64 3]) (by simp [results, Try.results10, go_sem]) rfl ⟨_, rfl, HV.out.below (below_on (below_on (below_al _ _) (below_al _ _)) (below_al _ _)), hcap, (below_on (below_on (below_al _ _) (below_al _ _)) (below_al _ _))⟩

set_option linter.unusedVariables false in
set_option maxRecDepth 100000 in
set_option maxHeartbeats 2000000 in
theorem rdo10_0nb (P : Nat → Prop) (C : Nat) (v : Value) (l : List Int) (c : Int) (i : Int) (w : World) (hv : Lies w P v (ints l)) (hcap : CapOk v) (hl : l.length ≤ 16) (hok : ∀ (i : Nat) (x : Int), l[i]? = some x → OwnOk C x) (hP : ∀ b, w.heap.size ≤ b → P b) (q : c < 0) (r : (l.length : Int) ≤ i) :
    Calls Try.prog 10 #[rbankV C v, opV10 0 c i] w (RBankP P C (dL C l 0 c i) [.int .i64 (dX C l 0 c i), .int .i64 (dE C l 0 c i)] w) := by
  obtain ⟨e1, e2, e3⟩ := num0_bad (l := l) (i := i) (ck_core (n := l.length) (ckC_no (.inl q))) (by decide)
  rw [e1, e2, e3]
  clear e1 e2 e3
  obtain ⟨A, n, cc, rfl, HN, HV⟩ := hv.open10
  rw [HN.out] at r
  have d1 : decide (0 ≤ c) = false := by simp; omega
  have r0 : 0 ≤ i := by omega
  have r1 : decide (i < (n : Int)) = false := by simp; omega
  clear hv hok hP hl
  unfold rbankV opV10
  go_enter Try.func10, Try.ntmps10
  go_wp2
  exact bodyPost_ret (v := .tuple #[.agg #[.int .i64 C, .slice A n cc], .int .i64 0, .int .i64 3]) (by simp [results, Try.results10, go_sem]) rfl ⟨_, rfl, HV.out.below (below_on (below_on (below_al _ _) (below_al _ _)) (below_al _ _)), hcap, (below_on (below_on (below_al _ _) (below_al _ _)) (below_al _ _))⟩

set_option linter.unusedVariables false in
set_option maxRecDepth 100000 in
set_option maxHeartbeats 2000000 in
theorem rdo10_0no (P : Nat → Prop) (C : Nat) (v : Value) (l : List Int) (c : Int) (k : Nat) (w : World) (hv : Lies w P v (ints l)) (hcap : CapOk v) (hl : l.length ≤ 16) (hok : ∀ (i : Nat) (x : Int), l[i]? = some x → OwnOk C x) (hP : ∀ b, w.heap.size ≤ b → P b) (q : c < 0) (r : k < l.length) :
    Calls Try.prog 10 #[rbankV C v, opV10 0 c (k : Int)] w (RBankP P C (dL C l 0 c (k : Int)) [.int .i64 (dX C l 0 c (k : Int)), .int .i64 (dE C l 0 c (k : Int))] w) := by
  obtain ⟨e1, e2, e3⟩ := num0_bad (l := l) (i := (k : Int)) (ck_core (n := l.length) (ckC_no (.inl q))) (by decide)
  rw [e1, e2, e3]
  clear e1 e2 e3
  obtain ⟨A, n, cc, rfl, HN, HV⟩ := hv.open10
  rw [HN.out] at r
  have d1 : decide (0 ≤ c) = false := by simp; omega
  have r0 : (0 : Int) ≤ (k : Int) := by omega
  have r1 : (k : Int) < (n : Int) := by omega
  clear hv hok hP hl
  unfold rbankV opV10
  go_enter Try.func10, Try.ntmps10
  go_wp2
  exact bodyPost_ret (v := .tuple #[.agg #[.int .i64 C, .slice A n cc], .int .i64 0, .int .i64 3]) (by simp [results, Try.results10, go_sem]) rfl ⟨_, rfl, HV.out.below (below_on (below_on (below_al _ _) (below_al _ _)) (below_al _ _)), hcap, (below_on (below_on (below_al _ _) (below_al _ _)) (below_al _ _))⟩

set_option linter.unusedVariables false in
set_option maxRecDepth 100000 in
set_option maxHeartbeats 2000000 in
theorem rdo10_0bn (P : Nat → Prop) (C : Nat) (v : Value) (l : List Int) (c : Int) (i : Int) (w : World) (hv : Lies w P v (ints l)) (hcap : CapOk v) (hl : l.length ≤ 16) (hok : ∀ (i : Nat) (x : Int), l[i]? = some x → OwnOk C x) (hP : ∀ b, w.heap.size ≤ b → P b) (q : (C : Int) ≤ c) (r : i < 0) :
    Calls Try.prog 10 #[rbankV C v, opV10 0 c i] w (RBankP P C (dL C l 0 c i) [.int .i64 (dX C l 0 c i), .int .i64 (dE C l 0 c i)] w) := by
  obtain ⟨e1, e2, e3⟩ := num0_bad (l := l) (i := i) (ck_core (n := l.length) (ckC_no (.inr q))) (by decide)
  rw [e1, e2, e3]
  clear e1 e2 e3
  obtain ⟨A, n, cc, rfl, HN, HV⟩ := hv.open10
  have d0 : 0 ≤ c := by omega
  have d1 : decide (c < (C : Int)) = false := by simp; omega
  have r1 : decide (0 ≤ i) = false := by simp; omega
  clear hv hok hP hl
  unfold rbankV opV10
  go_enter Try.func10, Try.ntmps10
  go_wp2
  exact bodyPost_ret (v := .tuple #[.agg #[.int .i64 C, .slice A n cc], .int .i64 0, .int .i64 3]) (by simp [results, Try.results10, go_sem]) rfl ⟨_, rfl, HV.out.below (below_on (below_on (below_al _ _) (below_al _ _)) (below_al _ _)), hcap, (below_on (below_on (below_al _ _) (below_al _ _)) (below_al _ _))⟩

set_option linter.unusedVariables false in
set_option maxRecDepth 100000 in
set_option maxHeartbeats 2000000 in
theorem rdo10_0bb (P : Nat → Prop) (C : Nat) (v : Value) (l : List Int) (c : Int) (i : Int) (w : World) (hv : Lies w P v (ints l)) (hcap : CapOk v) (hl : l.length ≤ 16) (hok : ∀ (i : Nat) (x : Int), l[i]? = some x → OwnOk C x) (hP : ∀ b, w.heap.size ≤ b → P b) (q : (C : Int) ≤ c) (r : (l.length : Int) ≤ i) :
    Calls Try.prog 10 #[rbankV C v, opV10 0 c i] w (RBankP P C (dL C l 0 c i) [.int .i64 (dX C l 0 c i), .int .i64 (dE C l 0 c i)] w) := by
  obtain ⟨e1, e2, e3⟩ := num0_bad (l := l) (i := i) (ck_core (n := l.length) (ckC_no (.inr q))) (by decide)
  rw [e1, e2, e3]
  clear e1 e2 e3
  obtain ⟨A, n, cc, rfl, HN, HV⟩ := hv.open10
  rw [HN.out] at r
  have d0 : 0 ≤ c := by omega
  have d1 : decide (c < (C : Int)) = false := by simp; omega
  have r0 : 0 ≤ i := by omega
  have r1 : decide (i < (n : Int)) = false := by simp; omega
  clear hv hok hP hl
  unfold rbankV opV10
  go_enter Try.func10, Try.ntmps10
  go_wp2
  exact bodyPost_ret (v := .tuple #[.agg #[.int .i64 C, .slice A n cc], .int .i64 0, .int .i64 3]) (by simp [results, Try.results10, go_sem]) rfl ⟨_, rfl, HV.out.below (below_on (below_on (below_al _ _) (below_al _ _)) (below_al _ _)), hcap, (below_on (below_on (below_al _ _) (below_al _ _)) (below_al _ _))⟩

set_option linter.unusedVariables false in
set_option maxRecDepth 100000 in
set_option maxHeartbeats 2000000 in
theorem rdo10_0bo (P : Nat → Prop) (C : Nat) (v : Value) (l : List Int) (c : Int) (k : Nat) (w : World) (hv : Lies w P v (ints l)) (hcap : CapOk v) (hl : l.length ≤ 16) (hok : ∀ (i : Nat) (x : Int), l[i]? = some x → OwnOk C x) (hP : ∀ b, w.heap.size ≤ b → P b) (q : (C : Int) ≤ c) (r : k < l.length) :
    Calls Try.prog 10 #[rbankV C v, opV10 0 c (k : Int)] w (RBankP P C (dL C l 0 c (k : Int)) [.int .i64 (dX C l 0 c (k : Int)), .int .i64 (dE C l 0 c (k : Int))] w) := by
  obtain ⟨e1, e2, e3⟩ := num0_bad (l := l) (i := (k : Int)) (ck_core (n := l.length) (ckC_no (.inr q))) (by decide)
  rw [e1, e2, e3]
  clear e1 e2 e3
  obtain ⟨A, n, cc, rfl, HN, HV⟩ := hv.open10
  rw [HN.out] at r
  have d0 : 0 ≤ c := by omega
  have d1 : decide (c < (C : Int)) = false := by simp; omega
  have r0 : (0 : Int) ≤ (k : Int) := by omega
  have r1 : (k : Int) < (n : Int) := by omega
  clear hv hok hP hl
  unfold rbankV opV10
  go_enter Try.func10, Try.ntmps10
  go_wp2
  exact bodyPost_ret (v := .tuple #[.agg #[.int .i64 C, .slice A n cc], .int .i64 0, .int .i64 3]) (by simp [results, Try.results10, go_sem]) rfl ⟨_, rfl, HV.out.below (below_on (below_on (below_al _ _) (below_al _ _)) (below_al _ _)), hcap, (below_on (below_on (below_al _ _) (below_al _ _)) (below_al _ _))⟩

set_option linter.unusedVariables false in
set_option maxRecDepth 100000 in
set_option maxHeartbeats 2000000 in
theorem rdo10_0on (P : Nat → Prop) (C : Nat) (v : Value) (l : List Int) (c : Int) (i : Int) (w : World) (hv : Lies w P v (ints l)) (hcap : CapOk v) (hl : l.length ≤ 16) (hok : ∀ (i : Nat) (x : Int), l[i]? = some x → OwnOk C x) (hP : ∀ b, w.heap.size ≤ b → P b) (q : 0 ≤ c) (q' : c < C) (r : i < 0) :
    Calls Try.prog 10 #[rbankV C v, opV10 0 c i] w (RBankP P C (dL C l 0 c i) [.int .i64 (dX C l 0 c i), .int .i64 (dE C l 0 c i)] w) := by
  obtain ⟨e1, e2, e3⟩ := num0_bad (l := l) (e := 2) ((ck_lock (n := l.length) (ckC_yes q q')).trans (ckL_no (.inl r))) (by decide)
  rw [e1, e2, e3]
  clear e1 e2 e3
  obtain ⟨A, n, cc, rfl, HN, HV⟩ := hv.open10
  have r1 : decide (0 ≤ i) = false := by simp; omega
  clear hv hok hP hl
  unfold rbankV opV10
  go_enter Try.func10, Try.ntmps10
  go_wp2
  exact bodyPost_ret (v := .tuple #[.agg #[.int .i64 C, .slice A n cc], .int .i64 0, .int .i64 2]) (by simp [results, Try.results10, go_sem]) rfl ⟨_, rfl, HV.out.below (below_on (below_on (below_al _ _) (below_al _ _)) (below_al _ _)), hcap, (below_on (below_on (below_al _ _) (below_al _ _)) (below_al _ _))⟩

set_option linter.unusedVariables false in
set_option maxRecDepth 100000 in
set_option maxHeartbeats 2000000 in
theorem rdo10_0ob (P : Nat → Prop) (C : Nat) (v : Value) (l : List Int) (c : Int) (i : Int) (w : World) (hv : Lies w P v (ints l)) (hcap : CapOk v) (hl : l.length ≤ 16) (hok : ∀ (i : Nat) (x : Int), l[i]? = some x → OwnOk C x) (hP : ∀ b, w.heap.size ≤ b → P b) (q : 0 ≤ c) (q' : c < C) (r : (l.length : Int) ≤ i) :
    Calls Try.prog 10 #[rbankV C v, opV10 0 c i] w (RBankP P C (dL C l 0 c i) [.int .i64 (dX C l 0 c i), .int .i64 (dE C l 0 c i)] w) := by
  obtain ⟨e1, e2, e3⟩ := num0_bad (l := l) (e := 2) ((ck_lock (n := l.length) (ckC_yes q q')).trans (ckL_no (.inr r))) (by decide)
  rw [e1, e2, e3]
  clear e1 e2 e3
  obtain ⟨A, n, cc, rfl, HN, HV⟩ := hv.open10
  rw [HN.out] at r
  have r0 : 0 ≤ i := by omega
  have r1 : decide (i < (n : Int)) = false := by simp; omega
  clear hv hok hP hl
  unfold rbankV opV10
  go_enter Try.func10, Try.ntmps10
  go_wp2
  exact bodyPost_ret (v := .tuple #[.agg #[.int .i64 C, .slice A n cc], .int .i64 0, .int .i64 2]) (by simp [results, Try.results10, go_sem]) rfl ⟨_, rfl, HV.out.below (below_on (below_on (below_al _ _) (below_al _ _)) (below_al _ _)), hcap, (below_on (below_on (below_al _ _) (below_al _ _)) (below_al _ _))⟩

set_option linter.unusedVariables false in
set_option maxRecDepth 100000 in
set_option maxHeartbeats 2000000 in
theorem rdo10_1nn (P : Nat → Prop) (C : Nat) (v : Value) (l : List Int) (c : Int) (i : Int) (w : World) (hv : Lies w P v (ints l)) (hcap : CapOk v) (hl : l.length ≤ 16) (hok : ∀ (i : Nat) (x : Int), l[i]? = some x → OwnOk C x) (hP : ∀ b, w.heap.size ≤ b → P b) (q : c < 0) (r : i < 0) :
    Calls Try.prog 10 #[rbankV C v, opV10 1 c i] w (RBankP P C (dL C l 1 c i) [.int .i64 (dX C l 1 c i), .int .i64 (dE C l 1 c i)] w) := by
  obtain ⟨e1, e2, e3⟩ := num1_bad (l := l) (i := i) (ck_core (n := l.length) (ckC_no (.inl q))) (by decide)
  rw [e1, e2, e3]
  clear e1 e2 e3
  obtain ⟨A, n, cc, rfl, HN, HV⟩ := hv.open10
  have d1 : decide (0 ≤ c) = false := by simp; omega
  have r1 : decide (0 ≤ i) = false := by simp; omega
  clear hv hok hP hl
  unfold rbankV opV10
  go_enter Try.func10, Try.ntmps10
  go_wp2
  exact bodyPost_ret (v := .tuple #[.agg #[.int .i64 C, .slice A n cc], .int .i64 0, .int .i64 3]) (by simp [results, Try.results10, go_sem]) rfl ⟨_, rfl, HV.out.below (below_on (below_on (below_al _ _) (below_al _ _)) (below_al _ _)), hcap, (below_on (below_on (below_al _ _) (below_al _ _)) (below_al _ _))⟩

set_option linter.unusedVariables false in
set_option maxRecDepth 100000 in
set_option maxHeartbeats 2000000 in
theorem rdo10_1nb (P : Nat → Prop) (C : Nat) (v : Value) (l : List Int) (c : Int) (i : Int) (w : World) (hv : Lies w P v (ints l)) (hcap : CapOk v) (hl : l.length ≤ 16) (hok : ∀ (i : Nat) (x : Int), l[i]? = some x → OwnOk C x) (hP : ∀ b, w.heap.size ≤ b → P b) (q : c < 0) (r : (l.length : Int) ≤ i) :
    Calls Try.prog 10 #[rbankV C v, opV10 1 c i] w (RBankP P C (dL C l 1 c i) [.int .i64 (dX C l 1 c i), .int .i64 (dE C l 1 c i)] w) := by
  obtain ⟨e1, e2, e3⟩ := num1_bad (l := l) (i := i) (ck_core (n := l.length) (ckC_no (.inl q))) (by decide)
  rw [e1, e2, e3]
  clear e1 e2 e3
  obtain ⟨A, n, cc, rfl, HN, HV⟩ := hv.open10
  rw [HN.out] at r
  have d1 : decide (0 ≤ c) = false := by simp; omega
  have r0 : 0 ≤ i := by omega
  have r1 : decide (i < (n : Int)) = false := by simp; omega
  clear hv hok hP hl
  unfold rbankV opV10
  go_enter Try.func10, Try.ntmps10
  go_wp2
  exact bodyPost_ret (v := .tuple #[.agg #[.int .i64 C, .slice A n cc], .int .i64 0, .int .i64 3]) (by simp [results, Try.results10, go_sem]) rfl ⟨_, rfl, HV.out.below (below_on (below_on (below_al _ _) (below_al _ _)) (below_al _ _)), hcap, (below_on (below_on (below_al _ _) (below_al _ _)) (below_al _ _))⟩

set_option linter.unusedVariables false in
set_option maxRecDepth 100000 in
set_option maxHeartbeats 2000000 in
theorem rdo10_1no (P : Nat → Prop) (C : Nat) (v : Value) (l : List Int) (c : Int) (k : Nat) (w : World) (hv : Lies w P v (ints l)) (hcap : CapOk v) (hl : l.length ≤ 16) (hok : ∀ (i : Nat) (x : Int), l[i]? = some x → OwnOk C x) (hP : ∀ b, w.heap.size ≤ b → P b) (q : c < 0) (r : k < l.length) :
    Calls Try.prog 10 #[rbankV C v, opV10 1 c (k : Int)] w (RBankP P C (dL C l 1 c (k : Int)) [.int .i64 (dX C l 1 c (k : Int)), .int .i64 (dE C l 1 c (k : Int))] w) := by
  obtain ⟨e1, e2, e3⟩ := num1_bad (l := l) (i := (k : Int)) (ck_core (n := l.length) (ckC_no (.inl q))) (by decide)
  rw [e1, e2, e3]
  clear e1 e2 e3
  obtain ⟨A, n, cc, rfl, HN, HV⟩ := hv.open10
  rw [HN.out] at r
  have d1 : decide (0 ≤ c) = false := by simp; omega
  have r0 : (0 : Int) ≤ (k : Int) := by omega
  have r1 : (k : Int) < (n : Int) := by omega
  clear hv hok hP hl
  unfold rbankV opV10
  go_enter Try.func10, Try.ntmps10
  go_wp2
  exact bodyPost_ret (v := .tuple #[.agg #[.int .i64 C, .slice A n cc], .int .i64 0, .int .i64 3]) (by simp [results, Try.results10, go_sem]) rfl ⟨_, rfl, HV.out.below (below_on (below_on (below_al _ _) (below_al _ _)) (below_al _ _)), hcap, (below_on (below_on (below_al _ _) (below_al _ _)) (below_al _ _))⟩

set_option linter.unusedVariables false in
set_option maxRecDepth 100000 in
set_option maxHeartbeats 2000000 in
theorem rdo10_1bn (P : Nat → Prop) (C : Nat) (v : Value) (l : List Int) (c : Int) (i : Int) (w : World) (hv : Lies w P v (ints l)) (hcap : CapOk v) (hl : l.length ≤ 16) (hok : ∀ (i : Nat) (x : Int), l[i]? = some x → OwnOk C x) (hP : ∀ b, w.heap.size ≤ b → P b) (q : (C : Int) ≤ c) (r : i < 0) :
    Calls Try.prog 10 #[rbankV C v, opV10 1 c i] w (RBankP P C (dL C l 1 c i) [.int .i64 (dX C l 1 c i), .int .i64 (dE C l 1 c i)] w) := by
  obtain ⟨e1, e2, e3⟩ := num1_bad (l := l) (i := i) (ck_core (n := l.length) (ckC_no (.inr q))) (by decide)
  rw [e1, e2, e3]
  clear e1 e2 e3
  obtain ⟨A, n, cc, rfl, HN, HV⟩ := hv.open10
  have d0 : 0 ≤ c := by omega
  have d1 : decide (c < (C : Int)) = false := by simp; omega
  have r1 : decide (0 ≤ i) = false := by simp; omega
  clear hv hok hP hl
  unfold rbankV opV10
  go_enter Try.func10, Try.ntmps10
  go_wp2
  exact bodyPost_ret (v := .tuple #[.agg #[.int .i64 C, .slice A n cc], .int .i64 0, .int .i64 3]) (by simp [results, Try.results10, go_sem]) rfl ⟨_, rfl, HV.out.below (below_on (below_on (below_al _ _) (below_al _ _)) (below_al _ _)), hcap, (below_on (below_on (below_al _ _) (below_al _ _)) (below_al _ _))⟩

set_option linter.unusedVariables false in
set_option maxRecDepth 100000 in
set_option maxHeartbeats 2000000 in
theorem rdo10_1bb (P : Nat → Prop) (C : Nat) (v : Value) (l : List Int) (c : Int) (i : Int) (w : World) (hv : Lies w P v (ints l)) (hcap : CapOk v) (hl : l.length ≤ 16) (hok : ∀ (i : Nat) (x : Int), l[i]? = some x → OwnOk C x) (hP : ∀ b, w.heap.size ≤ b → P b) (q : (C : Int) ≤ c) (r : (l.length : Int) ≤ i) :
    Calls Try.prog 10 #[rbankV C v, opV10 1 c i] w (RBankP P C (dL C l 1 c i) [.int .i64 (dX C l 1 c i), .int .i64 (dE C l 1 c i)] w) := by
  obtain ⟨e1, e2, e3⟩ := num1_bad (l := l) (i := i) (ck_core (n := l.length) (ckC_no (.inr q))) (by decide)
  rw [e1, e2, e3]
  clear e1 e2 e3
  obtain ⟨A, n, cc, rfl, HN, HV⟩ := hv.open10
  rw [HN.out] at r
  have d0 : 0 ≤ c := by omega
  have d1 : decide (c < (C : Int)) = false := by simp; omega
  have r0 : 0 ≤ i := by omega
  have r1 : decide (i < (n : Int)) = false := by simp; omega
  clear hv hok hP hl
  unfold rbankV opV10
  go_enter Try.func10, Try.ntmps10
  go_wp2
  exact bodyPost_ret (v := .tuple #[.agg #[.int .i64 C, .slice A n cc], .int .i64 0, .int .i64 3]) (by simp [results, Try.results10, go_sem]) rfl ⟨_, rfl, HV.out.below (below_on (below_on (below_al _ _) (below_al _ _)) (below_al _ _)), hcap, (below_on (below_on (below_al _ _) (below_al _ _)) (below_al _ _))⟩

set_option linter.unusedVariables false in
set_option maxRecDepth 100000 in
set_option maxHeartbeats 2000000 in
theorem rdo10_1bo (P : Nat → Prop) (C : Nat) (v : Value) (l : List Int) (c : Int) (k : Nat) (w : World) (hv : Lies w P v (ints l)) (hcap : CapOk v) (hl : l.length ≤ 16) (hok : ∀ (i : Nat) (x : Int), l[i]? = some x → OwnOk C x) (hP : ∀ b, w.heap.size ≤ b → P b) (q : (C : Int) ≤ c) (r : k < l.length) :
    Calls Try.prog 10 #[rbankV C v, opV10 1 c (k : Int)] w (RBankP P C (dL C l 1 c (k : Int)) [.int .i64 (dX C l 1 c (k : Int)), .int .i64 (dE C l 1 c (k : Int))] w) := by
  obtain ⟨e1, e2, e3⟩ := num1_bad (l := l) (i := (k : Int)) (ck_core (n := l.length) (ckC_no (.inr q))) (by decide)
  rw [e1, e2, e3]
  clear e1 e2 e3
  obtain ⟨A, n, cc, rfl, HN, HV⟩ := hv.open10
  rw [HN.out] at r
  have d0 : 0 ≤ c := by omega
  have d1 : decide (c < (C : Int)) = false := by simp; omega
  have r0 : (0 : Int) ≤ (k : Int) := by omega
  have r1 : (k : Int) < (n : Int) := by omega
  clear hv hok hP hl
  unfold rbankV opV10
  go_enter Try.func10, Try.ntmps10
  go_wp2
  exact bodyPost_ret (v := .tuple #[.agg #[.int .i64 C, .slice A n cc], .int .i64 0, .int .i64 3]) (by simp [results, Try.results10, go_sem]) rfl ⟨_, rfl, HV.out.below (below_on (below_on (below_al _ _) (below_al _ _)) (below_al _ _)), hcap, (below_on (below_on (below_al _ _) (below_al _ _)) (below_al _ _))⟩

set_option linter.unusedVariables false in
set_option maxRecDepth 100000 in
set_option maxHeartbeats 2000000 in
theorem rdo10_1on (P : Nat → Prop) (C : Nat) (v : Value) (l : List Int) (c : Int) (i : Int) (w : World) (hv : Lies w P v (ints l)) (hcap : CapOk v) (hl : l.length ≤ 16) (hok : ∀ (i : Nat) (x : Int), l[i]? = some x → OwnOk C x) (hP : ∀ b, w.heap.size ≤ b → P b) (q : 0 ≤ c) (q' : c < C) (r : i < 0) :
    Calls Try.prog 10 #[rbankV C v, opV10 1 c i] w (RBankP P C (dL C l 1 c i) [.int .i64 (dX C l 1 c i), .int .i64 (dE C l 1 c i)] w) := by
  obtain ⟨e1, e2, e3⟩ := num1_bad (l := l) (e := 2) ((ck_lock (n := l.length) (ckC_yes q q')).trans (ckL_no (.inl r))) (by decide)
  rw [e1, e2, e3]
  clear e1 e2 e3
  obtain ⟨A, n, cc, rfl, HN, HV⟩ := hv.open10
  have r1 : decide (0 ≤ i) = false := by simp; omega
  clear hv hok hP hl
  unfold rbankV opV10
  go_enter Try.func10, Try.ntmps10
  go_wp2
  exact bodyPost_ret (v := .tuple #[.agg #[.int .i64 C, .slice A n cc], .int .i64 0, .int .i64 2]) (by simp [results, Try.results10, go_sem]) rfl ⟨_, rfl, HV.out.below (below_on (below_on (below_al _ _) (below_al _ _)) (below_al _ _)), hcap, (below_on (below_on (below_al _ _) (below_al _ _)) (below_al _ _))⟩

set_option linter.unusedVariables false in
set_option maxRecDepth 100000 in
set_option maxHeartbeats 2000000 in
theorem rdo10_1ob (P : Nat → Prop) (C : Nat) (v : Value) (l : List Int) (c : Int) (i : Int) (w : World) (hv : Lies w P v (ints l)) (hcap : CapOk v) (hl : l.length ≤ 16) (hok : ∀ (i : Nat) (x : Int), l[i]? = some x → OwnOk C x) (hP : ∀ b, w.heap.size ≤ b → P b) (q : 0 ≤ c) (q' : c < C) (r : (l.length : Int) ≤ i) :
    Calls Try.prog 10 #[rbankV C v, opV10 1 c i] w (RBankP P C (dL C l 1 c i) [.int .i64 (dX C l 1 c i), .int .i64 (dE C l 1 c i)] w) := by
  obtain ⟨e1, e2, e3⟩ := num1_bad (l := l) (e := 2) ((ck_lock (n := l.length) (ckC_yes q q')).trans (ckL_no (.inr r))) (by decide)
  rw [e1, e2, e3]
  clear e1 e2 e3
  obtain ⟨A, n, cc, rfl, HN, HV⟩ := hv.open10
  rw [HN.out] at r
  have r0 : 0 ≤ i := by omega
  have r1 : decide (i < (n : Int)) = false := by simp; omega
  clear hv hok hP hl
  unfold rbankV opV10
  go_enter Try.func10, Try.ntmps10
  go_wp2
  exact bodyPost_ret (v := .tuple #[.agg #[.int .i64 C, .slice A n cc], .int .i64 0, .int .i64 2]) (by simp [results, Try.results10, go_sem]) rfl ⟨_, rfl, HV.out.below (below_on (below_on (below_al _ _) (below_al _ _)) (below_al _ _)), hcap, (below_on (below_on (below_al _ _) (below_al _ _)) (below_al _ _))⟩

set_option linter.unusedVariables false in
set_option maxRecDepth 100000 in
set_option maxHeartbeats 2000000 in
theorem rdo10_0taken (P : Nat → Prop) (C : Nat) (v : Value) (l : List Int) (c : Int) (k : Nat) (w : World) (hv : Lies w P v (ints l)) (hcap : CapOk v) (hl : l.length ≤ 16) (hok : ∀ (i : Nat) (x : Int), l[i]? = some x → OwnOk C x) (hP : ∀ b, w.heap.size ≤ b → P b) (q : 0 ≤ c) (q' : c < C) (r : k < l.length) (x : Int) (hx : l[k]? = some x) (hn : 0 ≤ x) :
    Calls Try.prog 10 #[rbankV C v, opV10 0 c (k : Int)] w (RBankP P C (dL C l 0 c (k : Int)) [.int .i64 (dX C l 0 c (k : Int)), .int .i64 (dE C l 0 c (k : Int))] w) := by
  obtain ⟨e1, e2, e3⟩ := num0_taken (l := l) ((ck_lock (n := l.length) (ckC_yes q q')).trans (ckL_yes (Int.natCast_nonneg k) (Int.ofNat_lt.2 r))) hx (by omega)
  rw [e1, e2, e3]
  clear e1 e2 e3
  obtain ⟨A, n, cc, rfl, HN, HV⟩ := hv.open10
  rw [HN.out] at r
  have r0 : (0 : Int) ≤ (k : Int) := by omega
  have r1 : (k : Int) < (n : Int) := by omega
  have HV0 := HV.out
  obtain ⟨A', c', hsl, hA⟩ := HV0
  rw [ints_len, HN.out] at hsl hA
  injection hsl with s1 _ s3
  subst s1 s3
  obtain ⟨g, og, rfl, hPg, hgl, hcell⟩ := hA (by omega)
  have hxc : w.cell? ⟨g, og + k, none⟩ = some (.int .i64 x) := hcell k _ (ints_some hx)
  have hg0 : g ≠ w.heap.size := by omega
  have hg1 : g ≠ w.heap.size + 1 := by omega
  have hg2 : g ≠ w.heap.size + 1 + 1 := by omega
  have hgl1 : g < w.heap.size + 1 := by omega
  have hgl2 : g < w.heap.size + 1 + 1 := by omega
  have hgl3 : g < w.heap.size + 1 + 1 + 1 := by omega
  clear hA hcell hx
  clear hv hok hP hl
  unfold rbankV opV10
  go_enter Try.func10, Try.ntmps10
  go_wp2
  exact bodyPost_ret (v := .tuple #[.agg #[.int .i64 C, .slice (some ⟨g, og, none⟩) n cc], .int .i64 0, .int .i64 0]) (by simp [results, Try.results10, go_sem]) rfl ⟨_, rfl, HV.out.below (below_on (below_on (below_al _ _) (below_al _ _)) (below_al _ _)), hcap, (below_on (below_on (below_al _ _) (below_al _ _)) (below_al _ _))⟩

set_option linter.unusedVariables false in
set_option maxRecDepth 100000 in
set_option maxHeartbeats 2000000 in
theorem rdo10_0free (P : Nat → Prop) (C : Nat) (v : Value) (l : List Int) (c : Int) (k : Nat) (w : World) (hv : Lies w P v (ints l)) (hcap : CapOk v) (hl : l.length ≤ 16) (hok : ∀ (i : Nat) (x : Int), l[i]? = some x → OwnOk C x) (hP : ∀ b, w.heap.size ≤ b → P b) (q : 0 ≤ c) (q' : c < C) (r : k < l.length) (hx : l[k]? = some (-1)) :
    Calls Try.prog 10 #[rbankV C v, opV10 0 c (k : Int)] w (RBankP P C (dL C l 0 c (k : Int)) [.int .i64 (dX C l 0 c (k : Int)), .int .i64 (dE C l 0 c (k : Int))] w) := by
  obtain ⟨e1, e2, e3⟩ := num0_free (l := l) ((ck_lock (n := l.length) (ckC_yes q q')).trans (ckL_yes (Int.natCast_nonneg k) (Int.ofNat_lt.2 r))) hx
  rw [e1, e2, e3]
  clear e1 e2 e3
  obtain ⟨A, n, cc, rfl, HN, HV⟩ := hv.open10
  rw [HN.out] at r
  have r0 : (0 : Int) ≤ (k : Int) := by omega
  have r1 : (k : Int) < (n : Int) := by omega
  obtain ⟨x, hxx⟩ : ∃ x : Int, x = -1 := ⟨_, rfl⟩
  rw [← hxx] at hx
  have xn : decide (0 ≤ x) = false := by simp; omega
  have HV0 := HV.out
  obtain ⟨A', c', hsl, hA⟩ := HV0
  rw [ints_len, HN.out] at hsl hA
  injection hsl with s1 _ s3
  subst s1 s3
  obtain ⟨g, og, rfl, hPg, hgl, hcell⟩ := hA (by omega)
  have hxc : w.cell? ⟨g, og + k, none⟩ = some (.int .i64 x) := hcell k _ (ints_some hx)
  have hg0 : g ≠ w.heap.size := by omega
  have hg1 : g ≠ w.heap.size + 1 := by omega
  have hg2 : g ≠ w.heap.size + 1 + 1 := by omega
  have hgl1 : g < w.heap.size + 1 := by omega
  have hgl2 : g < w.heap.size + 1 + 1 := by omega
  have hgl3 : g < w.heap.size + 1 + 1 + 1 := by omega
  clear hA hcell hx
  clear hxx
  have RW := Lib.hid (fun W (hb : Below w.heap.size w W) => rwith10_any P C (.slice (some ⟨g, og, none⟩) n cc) l k c W (HV.out.below hb) hcap (by rw [HN.out]; exact r) hl)
  have HP := Lib.hid hP
  have I2 := Row.new ((w.alloc (.cells #[.int .i64 C, .slice (some ⟨g, og, none⟩) n cc] 31)).alloc (.cells #[.int .i64 0, .int .i64 c, .int .i64 (k : Int)] 24)) 31 #[.int .i64 0, .slice none 0 0]
  rw [show ((w.alloc (.cells #[.int .i64 C, .slice (some ⟨g, og, none⟩) n cc] 31)).alloc (.cells #[.int .i64 0, .int .i64 c, .int .i64 (k : Int)] 24)).heap.size = w.heap.size + 1 + 1 from by simp] at I2
  have HI2 := Lib.hid I2
  have hb3 : Below w.heap.size w (((w.alloc (.cells #[.int .i64 C, .slice (some ⟨g, og, none⟩) n cc] 31)).alloc (.cells #[.int .i64 0, .int .i64 c, .int .i64 (k : Int)] 24)).alloc (.cells #[.int .i64 0, .slice none 0 0] 31)) := (below_on (below_on (below_al _ _) (below_al _ _)) (below_al _ _))
  have HB3 := Lib.hid hb3
  clear hv hok hP I2 hb3
  unfold rbankV at RW
  unfold rbankV opV10
  go_enter Try.func10, Try.ntmps10
  go_wp2_with fail
  refine (RW.out _ HB3.out).mono ?_
  rintro e w4 ⟨v2, rfl, hv2, hcap2, hb4⟩
  obtain ⟨A2, n2, c2, rfl, HN2, HV2⟩ := hv2.open10
  have I4 := HI2.out.below hb4
  have y0 := I4.cell 0
  have y1 := I4.cell 1
  have f0 := I4.soft 0
  have f1 := I4.soft 1
  simp only [List.getElem?_cons_zero, List.getElem?_cons_succ] at y0 y1
  have HB4 := Lib.hid (below_on HB3.out hb4)
  have hsz := hb4.size
  simp at hsz
  have hlt4 := I4.lt
  have HS := Lib.hid hsz
  clear hb4 hv2 I4
  unfold rbankV
  go_wp2
  refine bodyPost_ret (v := .tuple #[.agg #[.int .i64 C, .slice A2 n2 c2], .int .i64 1, .int .i64 0]) (by simp [results, Try.results10, go_sem, *]) rfl ?_
  have hO : Only (fun b => b = w.heap.size + 1 + 1) w4 ((w4.setCell ⟨w.heap.size + 1 + 1, 0, none⟩ (.int .i64 C)).setCell ⟨w.heap.size + 1 + 1, 1, none⟩ (.slice A2 n2 c2)) := (only_put10 w4 _ 0 _).trans (only_put10 _ _ 1 _)
  refine ⟨_, rfl, ?_, hcap2, (HB4.out.setCell (p := ⟨w.heap.size + 1 + 1, 0, none⟩) (by show w.heap.size ≤ w.heap.size + 1 + 1; omega) _).setCell (p := ⟨w.heap.size + 1 + 1, 1, none⟩) (by show w.heap.size ≤ w.heap.size + 1 + 1; omega) _⟩
  exact (HV2.out.only hO (fun b hb hp => by simp at hp; omega)).weak (fun b _ hp => HP.out b (by simp at hp; omega))

set_option linter.unusedVariables false in
set_option maxRecDepth 100000 in
set_option maxHeartbeats 2000000 in
theorem rdo10_1not (P : Nat → Prop) (C : Nat) (v : Value) (l : List Int) (c : Int) (k : Nat) (w : World) (hv : Lies w P v (ints l)) (hcap : CapOk v) (hl : l.length ≤ 16) (hok : ∀ (i : Nat) (x : Int), l[i]? = some x → OwnOk C x) (hP : ∀ b, w.heap.size ≤ b → P b) (q : 0 ≤ c) (q' : c < C) (r : k < l.length) (x : Int) (hx : l[k]? = some x) (hn : x ≠ c) :
    Calls Try.prog 10 #[rbankV C v, opV10 1 c (k : Int)] w (RBankP P C (dL C l 1 c (k : Int)) [.int .i64 (dX C l 1 c (k : Int)), .int .i64 (dE C l 1 c (k : Int))] w) := by
  obtain ⟨e1, e2, e3⟩ := num1_no (l := l) ((ck_lock (n := l.length) (ckC_yes q q')).trans (ckL_yes (Int.natCast_nonneg k) (Int.ofNat_lt.2 r))) hx hn
  rw [e1, e2, e3]
  clear e1 e2 e3
  obtain ⟨A, n, cc, rfl, HN, HV⟩ := hv.open10
  rw [HN.out] at r
  have r0 : (0 : Int) ≤ (k : Int) := by omega
  have r1 : (k : Int) < (n : Int) := by omega
  have xn : (x != c) = true := by simpa using hn
  have HV0 := HV.out
  obtain ⟨A', c', hsl, hA⟩ := HV0
  rw [ints_len, HN.out] at hsl hA
  injection hsl with s1 _ s3
  subst s1 s3
  obtain ⟨g, og, rfl, hPg, hgl, hcell⟩ := hA (by omega)
  have hxc : w.cell? ⟨g, og + k, none⟩ = some (.int .i64 x) := hcell k _ (ints_some hx)
  have hg0 : g ≠ w.heap.size := by omega
  have hg1 : g ≠ w.heap.size + 1 := by omega
  have hg2 : g ≠ w.heap.size + 1 + 1 := by omega
  have hgl1 : g < w.heap.size + 1 := by omega
  have hgl2 : g < w.heap.size + 1 + 1 := by omega
  have hgl3 : g < w.heap.size + 1 + 1 + 1 := by omega
  clear hA hcell hx
  clear hn
  clear hv hok hP hl
  unfold rbankV opV10
  go_enter Try.func10, Try.ntmps10
  go_wp2
  go_quiet (fail)
  go_wp2
  exact bodyPost_ret (v := .tuple #[.agg #[.int .i64 C, .slice (some ⟨g, og, none⟩) n cc], .int .i64 0, .int .i64 12]) (by simp [results, Try.results10, go_sem]) rfl ⟨_, rfl, HV.out.below (((below_dn (below_on (below_on (below_al _ _) (below_al _ _)) (below_al _ _)) _).setCell (p := ⟨w.heap.size + 1 + 1, 0, none⟩) (by show w.heap.size ≤ w.heap.size + 1 + 1; omega) _).setCell (p := ⟨w.heap.size + 1 + 1, 1, none⟩) (by show w.heap.size ≤ w.heap.size + 1 + 1; omega) _), hcap, (((below_dn (below_on (below_on (below_al _ _) (below_al _ _)) (below_al _ _)) _).setCell (p := ⟨w.heap.size + 1 + 1, 0, none⟩) (by show w.heap.size ≤ w.heap.size + 1 + 1; omega) _).setCell (p := ⟨w.heap.size + 1 + 1, 1, none⟩) (by show w.heap.size ≤ w.heap.size + 1 + 1; omega) _)⟩

set_option linter.unusedVariables false in
set_option maxRecDepth 100000 in
set_option maxHeartbeats 2000000 in
theorem rdo10_1did (P : Nat → Prop) (C : Nat) (v : Value) (l : List Int) (c : Int) (k : Nat) (w : World) (hv : Lies w P v (ints l)) (hcap : CapOk v) (hl : l.length ≤ 16) (hok : ∀ (i : Nat) (x : Int), l[i]? = some x → OwnOk C x) (hP : ∀ b, w.heap.size ≤ b → P b) (q : 0 ≤ c) (q' : c < C) (r : k < l.length) (hx : l[k]? = some c) :
    Calls Try.prog 10 #[rbankV C v, opV10 1 c (k : Int)] w (RBankP P C (dL C l 1 c (k : Int)) [.int .i64 (dX C l 1 c (k : Int)), .int .i64 (dE C l 1 c (k : Int))] w) := by
  obtain ⟨e1, e2, e3⟩ := num1_yes (l := l) ((ck_lock (n := l.length) (ckC_yes q q')).trans (ckL_yes (Int.natCast_nonneg k) (Int.ofNat_lt.2 r))) hx
  rw [e1, e2, e3]
  clear e1 e2 e3
  obtain ⟨A, n, cc, rfl, HN, HV⟩ := hv.open10
  rw [HN.out] at r
  have r0 : (0 : Int) ≤ (k : Int) := by omega
  have r1 : (k : Int) < (n : Int) := by omega
  obtain ⟨x, hxx⟩ : ∃ x : Int, x = c := ⟨_, rfl⟩
  rw [← hxx] at hx
  have xn : (x != c) = false := by rw [hxx]; simp
  have HV0 := HV.out
  obtain ⟨A', c', hsl, hA⟩ := HV0
  rw [ints_len, HN.out] at hsl hA
  injection hsl with s1 _ s3
  subst s1 s3
  obtain ⟨g, og, rfl, hPg, hgl, hcell⟩ := hA (by omega)
  have hxc : w.cell? ⟨g, og + k, none⟩ = some (.int .i64 x) := hcell k _ (ints_some hx)
  have hg0 : g ≠ w.heap.size := by omega
  have hg1 : g ≠ w.heap.size + 1 := by omega
  have hg2 : g ≠ w.heap.size + 1 + 1 := by omega
  have hgl1 : g < w.heap.size + 1 := by omega
  have hgl2 : g < w.heap.size + 1 + 1 := by omega
  have hgl3 : g < w.heap.size + 1 + 1 + 1 := by omega
  clear hA hcell hx
  clear hxx
  have RW := Lib.hid (fun W (hb : Below w.heap.size w W) => rwith10_any P C (.slice (some ⟨g, og, none⟩) n cc) l k (-1) W (HV.out.below hb) hcap (by rw [HN.out]; exact r) hl)
  have HP := Lib.hid hP
  have I2 := Row.new ((w.alloc (.cells #[.int .i64 C, .slice (some ⟨g, og, none⟩) n cc] 31)).alloc (.cells #[.int .i64 1, .int .i64 c, .int .i64 (k : Int)] 24)) 31 #[.int .i64 0, .slice none 0 0]
  rw [show ((w.alloc (.cells #[.int .i64 C, .slice (some ⟨g, og, none⟩) n cc] 31)).alloc (.cells #[.int .i64 1, .int .i64 c, .int .i64 (k : Int)] 24)).heap.size = w.heap.size + 1 + 1 from by simp] at I2
  have HI2 := Lib.hid I2
  have hb3 : Below w.heap.size w (((w.alloc (.cells #[.int .i64 C, .slice (some ⟨g, og, none⟩) n cc] 31)).alloc (.cells #[.int .i64 1, .int .i64 c, .int .i64 (k : Int)] 24)).alloc (.cells #[.int .i64 0, .slice none 0 0] 31)) := (below_on (below_on (below_al _ _) (below_al _ _)) (below_al _ _))
  have HB3 := Lib.hid hb3
  clear hv hok hP I2 hb3
  unfold rbankV at RW
  unfold rbankV opV10
  go_enter Try.func10, Try.ntmps10
  go_wp2
  go_quiet (fail)
  go_wp2_with fail
  refine (RW.out _ (below_dn HB3.out _)).mono ?_
  rintro e w4 ⟨v2, rfl, hv2, hcap2, hb4⟩
  obtain ⟨A2, n2, c2, rfl, HN2, HV2⟩ := hv2.open10
  have I4 := HI2.out.below (below_on (below_q _ _) hb4)
  have y0 := I4.cell 0
  have y1 := I4.cell 1
  have f0 := I4.soft 0
  have f1 := I4.soft 1
  simp only [List.getElem?_cons_zero, List.getElem?_cons_succ] at y0 y1
  have HB4 := Lib.hid (below_on (below_dn HB3.out _) hb4)
  have hsz := hb4.size
  simp at hsz
  have hlt4 := I4.lt
  have HS := Lib.hid hsz
  clear hb4 hv2 I4
  unfold rbankV
  go_wp2
  refine bodyPost_ret (v := .tuple #[.agg #[.int .i64 C, .slice A2 n2 c2], .int .i64 0, .int .i64 0]) (by simp [results, Try.results10, go_sem, *]) rfl ?_
  have hO : Only (fun b => b = w.heap.size + 1 + 1) w4 ((w4.setCell ⟨w.heap.size + 1 + 1, 0, none⟩ (.int .i64 C)).setCell ⟨w.heap.size + 1 + 1, 1, none⟩ (.slice A2 n2 c2)) := (only_put10 w4 _ 0 _).trans (only_put10 _ _ 1 _)
  refine ⟨_, rfl, ?_, hcap2, (HB4.out.setCell (p := ⟨w.heap.size + 1 + 1, 0, none⟩) (by show w.heap.size ≤ w.heap.size + 1 + 1; omega) _).setCell (p := ⟨w.heap.size + 1 + 1, 1, none⟩) (by show w.heap.size ≤ w.heap.size + 1 + 1; omega) _⟩
  exact (HV2.out.only hO (fun b hb hp => by simp at hp; omega)).weak (fun b _ hp => HP.out b (by simp at hp; omega))

set_option linter.unusedVariables false in
set_option maxRecDepth 100000 in
set_option maxHeartbeats 2000000 in
theorem rdo10_dnn (P : Nat → Prop) (C : Nat) (v : Value) (l : List Int) (K c : Int) (i : Int) (w : World) (hv : Lies w P v (ints l)) (hcap : CapOk v) (hl : l.length ≤ 16) (hok : ∀ (i : Nat) (x : Int), l[i]? = some x → OwnOk C x) (hP : ∀ b, w.heap.size ≤ b → P b) (k0 : (K == 0) = false) (k1 : (K == 1) = false) (k3 : (K == 3) = false) (q : c < 0) (r : i < 0) :
    Calls Try.prog 10 #[rbankV C v, opV10 K c i] w (RBankP P C (dL C l K c i) [.int .i64 (dX C l K c i), .int .i64 (dE C l K c i)] w) := by
  obtain ⟨e1, e2, e3⟩ := numD_bad (C := C) (l := l) (c := c) (by simpa using k0) (by simpa using k1) (by simpa using k3) (ckL_no (.inl r))
  rw [e1, e2, e3]
  clear e1 e2 e3
  obtain ⟨A, n, cc, rfl, HN, HV⟩ := hv.open10
  have d1 : decide (0 ≤ c) = false := by simp; omega
  have r1 : decide (0 ≤ i) = false := by simp; omega
  clear hv hok hP hl
  unfold rbankV opV10
  go_enter Try.func10, Try.ntmps10
  go_wp2
  exact bodyPost_ret (v := .tuple #[.agg #[.int .i64 C, .slice A n cc], .int .i64 0, .int .i64 2]) (by simp [results, Try.results10, go_sem]) rfl ⟨_, rfl, HV.out.below (below_on (below_on (below_al _ _) (below_al _ _)) (below_al _ _)), hcap, (below_on (below_on (below_al _ _) (below_al _ _)) (below_al _ _))⟩

set_option linter.unusedVariables false in
set_option maxRecDepth 100000 in
set_option maxHeartbeats 2000000 in
theorem rdo10_dnb (P : Nat → Prop) (C : Nat) (v : Value) (l : List Int) (K c : Int) (i : Int) (w : World) (hv : Lies w P v (ints l)) (hcap : CapOk v) (hl : l.length ≤ 16) (hok : ∀ (i : Nat) (x : Int), l[i]? = some x → OwnOk C x) (hP : ∀ b, w.heap.size ≤ b → P b) (k0 : (K == 0) = false) (k1 : (K == 1) = false) (k3 : (K == 3) = false) (q : c < 0) (r : (l.length : Int) ≤ i) :
    Calls Try.prog 10 #[rbankV C v, opV10 K c i] w (RBankP P C (dL C l K c i) [.int .i64 (dX C l K c i), .int .i64 (dE C l K c i)] w) := by
  obtain ⟨e1, e2, e3⟩ := numD_bad (C := C) (l := l) (c := c) (by simpa using k0) (by simpa using k1) (by simpa using k3) (ckL_no (.inr r))
  rw [e1, e2, e3]
  clear e1 e2 e3
  obtain ⟨A, n, cc, rfl, HN, HV⟩ := hv.open10
  rw [HN.out] at r
  have d1 : decide (0 ≤ c) = false := by simp; omega
  have r0 : 0 ≤ i := by omega
  have r1 : decide (i < (n : Int)) = false := by simp; omega
  clear hv hok hP hl
  unfold rbankV opV10
  go_enter Try.func10, Try.ntmps10
  go_wp2
  exact bodyPost_ret (v := .tuple #[.agg #[.int .i64 C, .slice A n cc], .int .i64 0, .int .i64 2]) (by simp [results, Try.results10, go_sem]) rfl ⟨_, rfl, HV.out.below (below_on (below_on (below_al _ _) (below_al _ _)) (below_al _ _)), hcap, (below_on (below_on (below_al _ _) (below_al _ _)) (below_al _ _))⟩

set_option linter.unusedVariables false in
set_option maxRecDepth 100000 in
set_option maxHeartbeats 2000000 in
theorem rdo10_dno (P : Nat → Prop) (C : Nat) (v : Value) (l : List Int) (K c : Int) (k : Nat) (w : World) (hv : Lies w P v (ints l)) (hcap : CapOk v) (hl : l.length ≤ 16) (hok : ∀ (i : Nat) (x : Int), l[i]? = some x → OwnOk C x) (hP : ∀ b, w.heap.size ≤ b → P b) (k0 : (K == 0) = false) (k1 : (K == 1) = false) (k3 : (K == 3) = false) (q : c < 0) (r : k < l.length) (x : Int) (hx : l[k]? = some x) :
    Calls Try.prog 10 #[rbankV C v, opV10 K c (k : Int)] w (RBankP P C (dL C l K c (k : Int)) [.int .i64 (dX C l K c (k : Int)), .int .i64 (dE C l K c (k : Int))] w) := by
  obtain ⟨e1, e2, e3⟩ := numD_ok (C := C) (l := l) (c := c) (by simpa using k0) (by simpa using k1) (by simpa using k3) (ckL_yes (Int.natCast_nonneg k) (Int.ofNat_lt.2 r)) hx
  rw [e1, e2, e3]
  clear e1 e2 e3
  obtain ⟨A, n, cc, rfl, HN, HV⟩ := hv.open10
  rw [HN.out] at r
  have d1 : decide (0 ≤ c) = false := by simp; omega
  have r0 : (0 : Int) ≤ (k : Int) := by omega
  have r1 : (k : Int) < (n : Int) := by omega
  have HV0 := HV.out
  obtain ⟨A', c', hsl, hA⟩ := HV0
  rw [ints_len, HN.out] at hsl hA
  injection hsl with s1 _ s3
  subst s1 s3
  obtain ⟨g, og, rfl, hPg, hgl, hcell⟩ := hA (by omega)
  have hxc : w.cell? ⟨g, og + k, none⟩ = some (.int .i64 x) := hcell k _ (ints_some hx)
  have hg0 : g ≠ w.heap.size := by omega
  have hg1 : g ≠ w.heap.size + 1 := by omega
  have hg2 : g ≠ w.heap.size + 1 + 1 := by omega
  have hgl1 : g < w.heap.size + 1 := by omega
  have hgl2 : g < w.heap.size + 1 + 1 := by omega
  have hgl3 : g < w.heap.size + 1 + 1 + 1 := by omega
  clear hA hcell hx
  clear hv hok hP hl
  unfold rbankV opV10
  go_enter Try.func10, Try.ntmps10
  go_wp2
  go_region
  all_goals try go_wp2
  all_goals refine bodyPost_ret (v := .tuple #[.agg #[.int .i64 C, .slice (some ⟨g, og, none⟩) n cc], .int .i64 x, .int .i64 0]) (by simp [results, Try.results10, go_sem]) rfl ⟨_, rfl, HV.out.below (Below.drew (below_on (below_on (below_al _ _) (below_al _ _)) (below_al _ _))), hcap, (Below.drew (below_on (below_on (below_al _ _) (below_al _ _)) (below_al _ _)))⟩

set_option linter.unusedVariables false in
set_option maxRecDepth 100000 in
set_option maxHeartbeats 2000000 in
theorem rdo10_dbn (P : Nat → Prop) (C : Nat) (v : Value) (l : List Int) (K c : Int) (i : Int) (w : World) (hv : Lies w P v (ints l)) (hcap : CapOk v) (hl : l.length ≤ 16) (hok : ∀ (i : Nat) (x : Int), l[i]? = some x → OwnOk C x) (hP : ∀ b, w.heap.size ≤ b → P b) (k0 : (K == 0) = false) (k1 : (K == 1) = false) (k3 : (K == 3) = false) (q : (C : Int) ≤ c) (r : i < 0) :
    Calls Try.prog 10 #[rbankV C v, opV10 K c i] w (RBankP P C (dL C l K c i) [.int .i64 (dX C l K c i), .int .i64 (dE C l K c i)] w) := by
  obtain ⟨e1, e2, e3⟩ := numD_bad (C := C) (l := l) (c := c) (by simpa using k0) (by simpa using k1) (by simpa using k3) (ckL_no (.inl r))
  rw [e1, e2, e3]
  clear e1 e2 e3
  obtain ⟨A, n, cc, rfl, HN, HV⟩ := hv.open10
  have d0 : 0 ≤ c := by omega
  have d1 : decide (c < (C : Int)) = false := by simp; omega
  have r1 : decide (0 ≤ i) = false := by simp; omega
  clear hv hok hP hl
  unfold rbankV opV10
  go_enter Try.func10, Try.ntmps10
  go_wp2
  exact bodyPost_ret (v := .tuple #[.agg #[.int .i64 C, .slice A n cc], .int .i64 0, .int .i64 2]) (by simp [results, Try.results10, go_sem]) rfl ⟨_, rfl, HV.out.below (below_on (below_on (below_al _ _) (below_al _ _)) (below_al _ _)), hcap, (below_on (below_on (below_al _ _) (below_al _ _)) (below_al _ _))⟩

set_option linter.unusedVariables false in
set_option maxRecDepth 100000 in
set_option maxHeartbeats 2000000 in
theorem rdo10_dbb (P : Nat → Prop) (C : Nat) (v : Value) (l : List Int) (K c : Int) (i : Int) (w : World) (hv : Lies w P v (ints l)) (hcap : CapOk v) (hl : l.length ≤ 16) (hok : ∀ (i : Nat) (x : Int), l[i]? = some x → OwnOk C x) (hP : ∀ b, w.heap.size ≤ b → P b) (k0 : (K == 0) = false) (k1 : (K == 1) = false) (k3 : (K == 3) = false) (q : (C : Int) ≤ c) (r : (l.length : Int) ≤ i) :
    Calls Try.prog 10 #[rbankV C v, opV10 K c i] w (RBankP P C (dL C l K c i) [.int .i64 (dX C l K c i), .int .i64 (dE C l K c i)] w) := by
  obtain ⟨e1, e2, e3⟩ := numD_bad (C := C) (l := l) (c := c) (by simpa using k0) (by simpa using k1) (by simpa using k3) (ckL_no (.inr r))
  rw [e1, e2, e3]
  clear e1 e2 e3
  obtain ⟨A, n, cc, rfl, HN, HV⟩ := hv.open10
  rw [HN.out] at r
  have d0 : 0 ≤ c := by omega
  have d1 : decide (c < (C : Int)) = false := by simp; omega
  have r0 : 0 ≤ i := by omega
  have r1 : decide (i < (n : Int)) = false := by simp; omega
  clear hv hok hP hl
  unfold rbankV opV10
  go_enter Try.func10, Try.ntmps10
  go_wp2
  exact bodyPost_ret (v := .tuple #[.agg #[.int .i64 C, .slice A n cc], .int .i64 0, .int .i64 2]) (by simp [results, Try.results10, go_sem]) rfl ⟨_, rfl, HV.out.below (below_on (below_on (below_al _ _) (below_al _ _)) (below_al _ _)), hcap, (below_on (below_on (below_al _ _) (below_al _ _)) (below_al _ _))⟩

set_option linter.unusedVariables false in
set_option maxRecDepth 100000 in
set_option maxHeartbeats 2000000 in
theorem rdo10_dbo (P : Nat → Prop) (C : Nat) (v : Value) (l : List Int) (K c : Int) (k : Nat) (w : World) (hv : Lies w P v (ints l)) (hcap : CapOk v) (hl : l.length ≤ 16) (hok : ∀ (i : Nat) (x : Int), l[i]? = some x → OwnOk C x) (hP : ∀ b, w.heap.size ≤ b → P b) (k0 : (K == 0) = false) (k1 : (K == 1) = false) (k3 : (K == 3) = false) (q : (C : Int) ≤ c) (r : k < l.length) (x : Int) (hx : l[k]? = some x) :
    Calls Try.prog 10 #[rbankV C v, opV10 K c (k : Int)] w (RBankP P C (dL C l K c (k : Int)) [.int .i64 (dX C l K c (k : Int)), .int .i64 (dE C l K c (k : Int))] w) := by
  obtain ⟨e1, e2, e3⟩ := numD_ok (C := C) (l := l) (c := c) (by simpa using k0) (by simpa using k1) (by simpa using k3) (ckL_yes (Int.natCast_nonneg k) (Int.ofNat_lt.2 r)) hx
  rw [e1, e2, e3]
  clear e1 e2 e3
  obtain ⟨A, n, cc, rfl, HN, HV⟩ := hv.open10
  rw [HN.out] at r
  have d0 : 0 ≤ c := by omega
  have d1 : decide (c < (C : Int)) = false := by simp; omega
  have r0 : (0 : Int) ≤ (k : Int) := by omega
  have r1 : (k : Int) < (n : Int) := by omega
  have HV0 := HV.out
  obtain ⟨A', c', hsl, hA⟩ := HV0
  rw [ints_len, HN.out] at hsl hA
  injection hsl with s1 _ s3
  subst s1 s3
  obtain ⟨g, og, rfl, hPg, hgl, hcell⟩ := hA (by omega)
  have hxc : w.cell? ⟨g, og + k, none⟩ = some (.int .i64 x) := hcell k _ (ints_some hx)
  have hg0 : g ≠ w.heap.size := by omega
  have hg1 : g ≠ w.heap.size + 1 := by omega
  have hg2 : g ≠ w.heap.size + 1 + 1 := by omega
  have hgl1 : g < w.heap.size + 1 := by omega
  have hgl2 : g < w.heap.size + 1 + 1 := by omega
  have hgl3 : g < w.heap.size + 1 + 1 + 1 := by omega
  clear hA hcell hx
  clear hv hok hP hl
  unfold rbankV opV10
  go_enter Try.func10, Try.ntmps10
  go_wp2
  go_region
  all_goals try go_wp2
  all_goals refine bodyPost_ret (v := .tuple #[.agg #[.int .i64 C, .slice (some ⟨g, og, none⟩) n cc], .int .i64 x, .int .i64 0]) (by simp [results, Try.results10, go_sem]) rfl ⟨_, rfl, HV.out.below (Below.drew (below_on (below_on (below_al _ _) (below_al _ _)) (below_al _ _))), hcap, (Below.drew (below_on (below_on (below_al _ _) (below_al _ _)) (below_al _ _)))⟩

set_option linter.unusedVariables false in
set_option maxRecDepth 100000 in
set_option maxHeartbeats 2000000 in
theorem rdo10_don (P : Nat → Prop) (C : Nat) (v : Value) (l : List Int) (K c : Int) (i : Int) (w : World) (hv : Lies w P v (ints l)) (hcap : CapOk v) (hl : l.length ≤ 16) (hok : ∀ (i : Nat) (x : Int), l[i]? = some x → OwnOk C x) (hP : ∀ b, w.heap.size ≤ b → P b) (k0 : (K == 0) = false) (k1 : (K == 1) = false) (k3 : (K == 3) = false) (q : 0 ≤ c) (q' : c < C) (r : i < 0) :
    Calls Try.prog 10 #[rbankV C v, opV10 K c i] w (RBankP P C (dL C l K c i) [.int .i64 (dX C l K c i), .int .i64 (dE C l K c i)] w) := by
  obtain ⟨e1, e2, e3⟩ := numD_bad (C := C) (l := l) (c := c) (by simpa using k0) (by simpa using k1) (by simpa using k3) (ckL_no (.inl r))
  rw [e1, e2, e3]
  clear e1 e2 e3
  obtain ⟨A, n, cc, rfl, HN, HV⟩ := hv.open10
  have r1 : decide (0 ≤ i) = false := by simp; omega
  clear hv hok hP hl
  unfold rbankV opV10
  go_enter Try.func10, Try.ntmps10
  go_wp2
  exact bodyPost_ret (v := .tuple #[.agg #[.int .i64 C, .slice A n cc], .int .i64 0, .int .i64 2]) (by simp [results, Try.results10, go_sem]) rfl ⟨_, rfl, HV.out.below (below_on (below_on (below_al _ _) (below_al _ _)) (below_al _ _)), hcap, (below_on (below_on (below_al _ _) (below_al _ _)) (below_al _ _))⟩

set_option linter.unusedVariables false in
set_option maxRecDepth 100000 in
set_option maxHeartbeats 2000000 in
theorem rdo10_dob (P : Nat → Prop) (C : Nat) (v : Value) (l : List Int) (K c : Int) (i : Int) (w : World) (hv : Lies w P v (ints l)) (hcap : CapOk v) (hl : l.length ≤ 16) (hok : ∀ (i : Nat) (x : Int), l[i]? = some x → OwnOk C x) (hP : ∀ b, w.heap.size ≤ b → P b) (k0 : (K == 0) = false) (k1 : (K == 1) = false) (k3 : (K == 3) = false) (q : 0 ≤ c) (q' : c < C) (r : (l.length : Int) ≤ i) :
    Calls Try.prog 10 #[rbankV C v, opV10 K c i] w (RBankP P C (dL C l K c i) [.int .i64 (dX C l K c i), .int .i64 (dE C l K c i)] w) := by
  obtain ⟨e1, e2, e3⟩ := numD_bad (C := C) (l := l) (c := c) (by simpa using k0) (by simpa using k1) (by simpa using k3) (ckL_no (.inr r))
  rw [e1, e2, e3]
  clear e1 e2 e3
  obtain ⟨A, n, cc, rfl, HN, HV⟩ := hv.open10
  rw [HN.out] at r
  have r0 : 0 ≤ i := by omega
  have r1 : decide (i < (n : Int)) = false := by simp; omega
  clear hv hok hP hl
  unfold rbankV opV10
  go_enter Try.func10, Try.ntmps10
  go_wp2
  exact bodyPost_ret (v := .tuple #[.agg #[.int .i64 C, .slice A n cc], .int .i64 0, .int .i64 2]) (by simp [results, Try.results10, go_sem]) rfl ⟨_, rfl, HV.out.below (below_on (below_on (below_al _ _) (below_al _ _)) (below_al _ _)), hcap, (below_on (below_on (below_al _ _) (below_al _ _)) (below_al _ _))⟩

set_option linter.unusedVariables false in
set_option maxRecDepth 100000 in
set_option maxHeartbeats 2000000 in
theorem rdo10_doo (P : Nat → Prop) (C : Nat) (v : Value) (l : List Int) (K c : Int) (k : Nat) (w : World) (hv : Lies w P v (ints l)) (hcap : CapOk v) (hl : l.length ≤ 16) (hok : ∀ (i : Nat) (x : Int), l[i]? = some x → OwnOk C x) (hP : ∀ b, w.heap.size ≤ b → P b) (k0 : (K == 0) = false) (k1 : (K == 1) = false) (k3 : (K == 3) = false) (q : 0 ≤ c) (q' : c < C) (r : k < l.length) (x : Int) (hx : l[k]? = some x) :
    Calls Try.prog 10 #[rbankV C v, opV10 K c (k : Int)] w (RBankP P C (dL C l K c (k : Int)) [.int .i64 (dX C l K c (k : Int)), .int .i64 (dE C l K c (k : Int))] w) := by
  obtain ⟨e1, e2, e3⟩ := numD_ok (C := C) (l := l) (c := c) (by simpa using k0) (by simpa using k1) (by simpa using k3) (ckL_yes (Int.natCast_nonneg k) (Int.ofNat_lt.2 r)) hx
  rw [e1, e2, e3]
  clear e1 e2 e3
  obtain ⟨A, n, cc, rfl, HN, HV⟩ := hv.open10
  rw [HN.out] at r
  have r0 : (0 : Int) ≤ (k : Int) := by omega
  have r1 : (k : Int) < (n : Int) := by omega
  have HV0 := HV.out
  obtain ⟨A', c', hsl, hA⟩ := HV0
  rw [ints_len, HN.out] at hsl hA
  injection hsl with s1 _ s3
  subst s1 s3
  obtain ⟨g, og, rfl, hPg, hgl, hcell⟩ := hA (by omega)
  have hxc : w.cell? ⟨g, og + k, none⟩ = some (.int .i64 x) := hcell k _ (ints_some hx)
  have hg0 : g ≠ w.heap.size := by omega
  have hg1 : g ≠ w.heap.size + 1 := by omega
  have hg2 : g ≠ w.heap.size + 1 + 1 := by omega
  have hgl1 : g < w.heap.size + 1 := by omega
  have hgl2 : g < w.heap.size + 1 + 1 := by omega
  have hgl3 : g < w.heap.size + 1 + 1 + 1 := by omega
  clear hA hcell hx
  clear hv hok hP hl
  unfold rbankV opV10
  go_enter Try.func10, Try.ntmps10
  go_wp2
  go_region
  all_goals try go_wp2
  all_goals refine bodyPost_ret (v := .tuple #[.agg #[.int .i64 C, .slice (some ⟨g, og, none⟩) n cc], .int .i64 x, .int .i64 0]) (by simp [results, Try.results10, go_sem]) rfl ⟨_, rfl, HV.out.below (Below.drew (below_on (below_on (below_al _ _) (below_al _ _)) (below_al _ _))), hcap, (Below.drew (below_on (below_on (below_al _ _) (below_al _ _)) (below_al _ _)))⟩

#print axioms rdo10_1did
#print axioms rdo10_doo
end Go.Proofs.Ytdpoigeeechchaa
