/-
  Layer 10 (locks): the reference's Do, case by case (Release).
  Conditions: those that each theorem states.
-/
import Derived.Test.YtdpoigeeechchaaRLk2
namespace Go.Proofs.Ytdpoigeeechchaa
open Go.ChangeShapes Go.WideShapes Go.ChangeAt Go.RowKit

set_option linter.unusedVariables false in
set_option maxRecDepth 100000 in
set_option maxHeartbeats 2000000 in
theorem rdo10_3nn (P : Nat → Prop) (C : Nat) (v : Value) (l : List Int) (c : Int) (i : Int) (w : World) (hv : Lies w P v (ints l)) (hcap : CapOk v) (hl : l.length ≤ 16) (hok : ∀ (i : Nat) (x : Int), l[i]? = some x → OwnOk C x) (hP : ∀ b, w.heap.size ≤ b → P b) (q : c < 0) (r : i < 0) :
    Calls Try.prog 10 #[rbankV C v, opV10 3 c i] w (RBankP P C (dL C l 3 c i) [.int .i64 (dX C l 3 c i), .int .i64 (dE C l 3 c i)] w) := by
  obtain ⟨e1, e2, e3⟩ := num3_bad (l := l) (i := i) (ckC_no (.inl q))
  rw [e1, e2, e3]
  clear e1 e2 e3
  obtain ⟨A, n, cc, rfl, HN, HV⟩ := hv.open10
  have d1 : decide (0 ≤ c) = false := by simp; omega
  have r1 : decide (0 ≤ i) = false := by simp; omega
  clear hv hok hP hl
  unfold rbankV opV10
  go_enter Try.func10, Try.ntmps10
  go_wp2
  exact bodyPost_ret (v := .tuple #[.agg #[.int .i64 C, .slice A n cc], .int .i64 0, .int .i64 3]) (by simp [results, Try.results10, go_sem]) rfl ⟨_, rfl, HV.out.below (below_on (below_on (below_al _ _) (below_al _ _)) (below_al _ _)), hcap, (below_on (below_on (below_al _ _) (below_al _ _)) (below_al _ _))⟩

set_option linter.unusedVariables false in
set_option maxRecDepth 100000 in
set_option maxHeartbeats 2000000 in
theorem rdo10_3nb (P : Nat → Prop) (C : Nat) (v : Value) (l : List Int) (c : Int) (i : Int) (w : World) (hv : Lies w P v (ints l)) (hcap : CapOk v) (hl : l.length ≤ 16) (hok : ∀ (i : Nat) (x : Int), l[i]? = some x → OwnOk C x) (hP : ∀ b, w.heap.size ≤ b → P b) (q : c < 0) (r : (l.length : Int) ≤ i) :
    Calls Try.prog 10 #[rbankV C v, opV10 3 c i] w (RBankP P C (dL C l 3 c i) [.int .i64 (dX C l 3 c i), .int .i64 (dE C l 3 c i)] w) := by
  obtain ⟨e1, e2, e3⟩ := num3_bad (l := l) (i := i) (ckC_no (.inl q))
  rw [e1, e2, e3]
  clear e1 e2 e3
  obtain ⟨A, n, cc, rfl, HN, HV⟩ := hv.open10
  rw [HN.out] at r
  have d1 : decide (0 ≤ c) = false := by simp; omega
  have r0 : 0 ≤ i := by omega
  have r1 : decide (i < (n : Int)) = false := by simp; omega
  clear hv hok hP hl
  unfold rbankV opV10
  go_enter Try.func10, Try.ntmps10
  go_wp2
  exact bodyPost_ret (v := .tuple #[.agg #[.int .i64 C, .slice A n cc], .int .i64 0, .int .i64 3]) (by simp [results, Try.results10, go_sem]) rfl ⟨_, rfl, HV.out.below (below_on (below_on (below_al _ _) (below_al _ _)) (below_al _ _)), hcap, (below_on (below_on (below_al _ _) (below_al _ _)) (below_al _ _))⟩

set_option linter.unusedVariables false in
set_option maxRecDepth 100000 in
set_option maxHeartbeats 2000000 in
theorem rdo10_3no (P : Nat → Prop) (C : Nat) (v : Value) (l : List Int) (c : Int) (k : Nat) (w : World) (hv : Lies w P v (ints l)) (hcap : CapOk v) (hl : l.length ≤ 16) (hok : ∀ (i : Nat) (x : Int), l[i]? = some x → OwnOk C x) (hP : ∀ b, w.heap.size ≤ b → P b) (q : c < 0) (r : k < l.length) :
    Calls Try.prog 10 #[rbankV C v, opV10 3 c (k : Int)] w (RBankP P C (dL C l 3 c (k : Int)) [.int .i64 (dX C l 3 c (k : Int)), .int .i64 (dE C l 3 c (k : Int))] w) := by
  obtain ⟨e1, e2, e3⟩ := num3_bad (l := l) (i := (k : Int)) (ckC_no (.inl q))
  rw [e1, e2, e3]
  clear e1 e2 e3
  obtain ⟨A, n, cc, rfl, HN, HV⟩ := hv.open10
  rw [HN.out] at r
  have d1 : decide (0 ≤ c) = false := by simp; omega
  have r0 : (0 : Int) ≤ (k : Int) := by omega
  have r1 : (k : Int) < (n : Int) := by omega
  clear hv hok hP hl
  unfold rbankV opV10
  go_enter Try.func10, Try.ntmps10
  go_wp2
  exact bodyPost_ret (v := .tuple #[.agg #[.int .i64 C, .slice A n cc], .int .i64 0, .int .i64 3]) (by simp [results, Try.results10, go_sem]) rfl ⟨_, rfl, HV.out.below (below_on (below_on (below_al _ _) (below_al _ _)) (below_al _ _)), hcap, (below_on (below_on (below_al _ _) (below_al _ _)) (below_al _ _))⟩

set_option linter.unusedVariables false in
set_option maxRecDepth 100000 in
set_option maxHeartbeats 2000000 in
theorem rdo10_3bn (P : Nat → Prop) (C : Nat) (v : Value) (l : List Int) (c : Int) (i : Int) (w : World) (hv : Lies w P v (ints l)) (hcap : CapOk v) (hl : l.length ≤ 16) (hok : ∀ (i : Nat) (x : Int), l[i]? = some x → OwnOk C x) (hP : ∀ b, w.heap.size ≤ b → P b) (q : (C : Int) ≤ c) (r : i < 0) :
    Calls Try.prog 10 #[rbankV C v, opV10 3 c i] w (RBankP P C (dL C l 3 c i) [.int .i64 (dX C l 3 c i), .int .i64 (dE C l 3 c i)] w) := by
  obtain ⟨e1, e2, e3⟩ := num3_bad (l := l) (i := i) (ckC_no (.inr q))
  rw [e1, e2, e3]
  clear e1 e2 e3
  obtain ⟨A, n, cc, rfl, HN, HV⟩ := hv.open10
  have d0 : 0 ≤ c := by omega
  have d1 : decide (c < (C : Int)) = false := by simp; omega
  have r1 : decide (0 ≤ i) = false := by simp; omega
  clear hv hok hP hl
  unfold rbankV opV10
  go_enter Try.func10, Try.ntmps10
  go_wp2
  exact bodyPost_ret (v := .tuple #[.agg #[.int .i64 C, .slice A n cc], .int .i64 0, .int .i64 3]) (by simp [results, Try.results10, go_sem]) rfl ⟨_, rfl, HV.out.below (below_on (below_on (below_al _ _) (below_al _ _)) (below_al _ _)), hcap, (below_on (below_on (below_al _ _) (below_al _ _)) (below_al _ _))⟩

set_option linter.unusedVariables false in
set_option maxRecDepth 100000 in
set_option maxHeartbeats 2000000 in
theorem rdo10_3bb (P : Nat → Prop) (C : Nat) (v : Value) (l : List Int) (c : Int) (i : Int) (w : World) (hv : Lies w P v (ints l)) (hcap : CapOk v) (hl : l.length ≤ 16) (hok : ∀ (i : Nat) (x : Int), l[i]? = some x → OwnOk C x) (hP : ∀ b, w.heap.size ≤ b → P b) (q : (C : Int) ≤ c) (r : (l.length : Int) ≤ i) :
    Calls Try.prog 10 #[rbankV C v, opV10 3 c i] w (RBankP P C (dL C l 3 c i) [.int .i64 (dX C l 3 c i), .int .i64 (dE C l 3 c i)] w) := by
  obtain ⟨e1, e2, e3⟩ := num3_bad (l := l) (i := i) (ckC_no (.inr q))
  rw [e1, e2, e3]
  clear e1 e2 e3
  obtain ⟨A, n, cc, rfl, HN, HV⟩ := hv.open10
  rw [HN.out] at r
  have d0 : 0 ≤ c := by omega
  have d1 : decide (c < (C : Int)) = false := by simp; omega
  have r0 : 0 ≤ i := by omega
  have r1 : decide (i < (n : Int)) = false := by simp; omega
  clear hv hok hP hl
  unfold rbankV opV10
  go_enter Try.func10, Try.ntmps10
  go_wp2
  exact bodyPost_ret (v := .tuple #[.agg #[.int .i64 C, .slice A n cc], .int .i64 0, .int .i64 3]) (by simp [results, Try.results10, go_sem]) rfl ⟨_, rfl, HV.out.below (below_on (below_on (below_al _ _) (below_al _ _)) (below_al _ _)), hcap, (below_on (below_on (below_al _ _) (below_al _ _)) (below_al _ _))⟩

set_option linter.unusedVariables false in
set_option maxRecDepth 100000 in
set_option maxHeartbeats 2000000 in
theorem rdo10_3bo (P : Nat → Prop) (C : Nat) (v : Value) (l : List Int) (c : Int) (k : Nat) (w : World) (hv : Lies w P v (ints l)) (hcap : CapOk v) (hl : l.length ≤ 16) (hok : ∀ (i : Nat) (x : Int), l[i]? = some x → OwnOk C x) (hP : ∀ b, w.heap.size ≤ b → P b) (q : (C : Int) ≤ c) (r : k < l.length) :
    Calls Try.prog 10 #[rbankV C v, opV10 3 c (k : Int)] w (RBankP P C (dL C l 3 c (k : Int)) [.int .i64 (dX C l 3 c (k : Int)), .int .i64 (dE C l 3 c (k : Int))] w) := by
  obtain ⟨e1, e2, e3⟩ := num3_bad (l := l) (i := (k : Int)) (ckC_no (.inr q))
  rw [e1, e2, e3]
  clear e1 e2 e3
  obtain ⟨A, n, cc, rfl, HN, HV⟩ := hv.open10
  rw [HN.out] at r
  have d0 : 0 ≤ c := by omega
  have d1 : decide (c < (C : Int)) = false := by simp; omega
  have r0 : (0 : Int) ≤ (k : Int) := by omega
  have r1 : (k : Int) < (n : Int) := by omega
  clear hv hok hP hl
  unfold rbankV opV10
  go_enter Try.func10, Try.ntmps10
  go_wp2
  exact bodyPost_ret (v := .tuple #[.agg #[.int .i64 C, .slice A n cc], .int .i64 0, .int .i64 3]) (by simp [results, Try.results10, go_sem]) rfl ⟨_, rfl, HV.out.below (below_on (below_on (below_al _ _) (below_al _ _)) (below_al _ _)), hcap, (below_on (below_on (below_al _ _) (below_al _ _)) (below_al _ _))⟩

/-- The state of the loop of Release. -/
structure DoAt10 (w wr : World) (P : Nat → Prop) (C : Nat) (lk : List Int) (A : Option Addr) (n cc : Nat) (v9 : Value) (ns : List Nat) : Prop where
  top : Row wr w.heap.size 31 [.int .i64 C, .slice A n cc]
  res : Row wr (w.heap.size + 1 + 1) 31 [.int .i64 0, .slice none 0 0]
  lies : Lies wr (fun b => P b ∧ b ≠ w.heap.size ∧ b ≠ w.heap.size + 1 + 1) (.slice A n cc) (ints lk)
  cap : CapOk (.slice A n cc)
  held : Lies wr (fun b => w.heap.size + 1 + 1 < b) v9 (ints (ns.map (fun (i : Nat) => (i : Int))))
  bel : Below w.heap.size w wr

theorem DoAt10.quiet {w wr w2 : World} {P : Nat → Prop} {C : Nat} {lk : List Int} {A : Option Addr} {n cc : Nat} {v9 : Value} {ns : List Nat} (s : DoAt10 w wr P C lk A n cc v9 ns) (hb : Below wr.heap.size wr w2) : DoAt10 w w2 P C lk A n cc v9 ns :=
  ⟨s.top.below hb, s.res.below hb, s.lies.below hb, s.cap, s.held.below hb, below_on s.bel hb⟩

theorem DoAt10.step {w w2 : World} {P : Nat → Prop} {C : Nat} {lk lk' : List Int} {A A2 : Option Addr} {n cc n2 c2 : Nat} {v9 : Value} {ns : List Nat} (s : DoAt10 w w2 P C lk A n cc v9 ns)
    (hv : Lies w2 (fun b => P b ∧ b ≠ w.heap.size ∧ b ≠ w.heap.size + 1 + 1) (.slice A2 n2 c2) (ints lk')) (hcap : CapOk (.slice A2 n2 c2)) :
    DoAt10 w ((w2.setCell ⟨w.heap.size, 0, none⟩ (.int .i64 C)).setCell ⟨w.heap.size, 1, none⟩ (.slice A2 n2 c2)) P C lk' A2 n2 c2 v9 ns := by
  have hO : Only (· = w.heap.size) w2 ((w2.setCell ⟨w.heap.size, 0, none⟩ (.int .i64 C)).setCell ⟨w.heap.size, 1, none⟩ (.slice A2 n2 c2)) := (only_put10 w2 _ 0 _).trans (only_put10 _ _ 1 _)
  refine ⟨?_, s.res.only hO (by omega), hv.only hO (fun b e hp => hp.2.1 e), hcap, s.held.only hO (fun b e hp => by omega), ?_⟩
  · exact (s.top.put 0 (.int .i64 C)).put 1 (.slice A2 n2 c2)
  · exact (s.bel.setCell (p := ⟨w.heap.size, 0, none⟩) (Nat.le_refl _) _).setCell (p := ⟨w.heap.size, 1, none⟩) (Nat.le_refl _) _

set_option linter.unusedVariables false in
set_option maxRecDepth 100000 in
set_option maxHeartbeats 2000000 in
theorem rdo10_3on (P : Nat → Prop) (C : Nat) (v : Value) (l : List Int) (c : Int) (i : Int) (w : World) (hv : Lies w P v (ints l)) (hcap : CapOk v) (hl : l.length ≤ 16) (hok : ∀ (i : Nat) (x : Int), l[i]? = some x → OwnOk C x) (hP : ∀ b, w.heap.size ≤ b → P b) (q : 0 ≤ c) (q' : c < C) (r : i < 0) :
    Calls Try.prog 10 #[rbankV C v, opV10 3 c i] w (RBankP P C (dL C l 3 c i) [.int .i64 (dX C l 3 c i), .int .i64 (dE C l 3 c i)] w) := by
  obtain ⟨e1, e2, e3⟩ := num3_ok (l := l) (i := i) (ckC_yes q q')
  rw [e1, e2, e3]
  clear e1 e2 e3
  obtain ⟨A, n, cc, rfl, HN, HV⟩ := hv.open10
  have r1 : decide (0 ≤ i) = false := by simp; omega
  obtain ⟨ns, hns⟩ : ∃ ns, heldN l c l.length = ns := ⟨_, rfl⟩
  have hm : ∀ i, i ∈ ns → i < l.length := fun i hi => by rw [← hns] at hi; exact (heldN_mem.1 hi).1
  have hhl : heldL l c l.length = ns.map (fun (i : Nat) => (i : Int)) := by unfold heldL; rw [hns]
  have hra : rheldA l c = ns.map (fun (i : Nat) => (i : Int)) := by unfold rheldA; rw [if_pos q]; exact hhl
  have hnl : ns.length ≤ 16 := by have := heldN_len l c l.length; rw [hns] at this; omega
  have RH := Lib.hid (fun W (hb : Below w.heap.size w W) => rheld10_any P C (.slice A n cc) l c W (HV.out.below hb) hl)
  rw [hra] at RH
  obtain ⟨m, hmm⟩ : ∃ m, ns.length = m := ⟨_, rfl⟩
  have e1 : (ns.map (fun (i : Nat) => (i : Int))).length = m := by rw [List.length_map, hmm]
  rw [hns, hhl, e1]
  rw [hmm] at hnl
  have HM := Lib.hid hmm
  have E1 := Lib.hid e1
  have HMEM := Lib.hid hm
  have HP := Lib.hid hP
  have HCAP := Lib.hid hcap
  have HL := Lib.hid hl
  have I0 := ((Row.new w 31 #[.int .i64 C, .slice A n cc]).below (below_al _ (.cells #[.int .i64 3, .int .i64 c, .int .i64 i] 24))).below (below_al _ (.cells #[.int .i64 0, .slice none 0 0] 31))
  have I2 := Row.new ((w.alloc (.cells #[.int .i64 C, .slice A n cc] 31)).alloc (.cells #[.int .i64 3, .int .i64 c, .int .i64 i] 24)) 31 #[.int .i64 0, .slice none 0 0]
  rw [show ((w.alloc (.cells #[.int .i64 C, .slice A n cc] 31)).alloc (.cells #[.int .i64 3, .int .i64 c, .int .i64 i] 24)).heap.size = w.heap.size + 1 + 1 from by simp] at I2
  have hb3 : Below w.heap.size w (((w.alloc (.cells #[.int .i64 C, .slice A n cc] 31)).alloc (.cells #[.int .i64 3, .int .i64 c, .int .i64 i] 24)).alloc (.cells #[.int .i64 0, .slice none 0 0] 31)) := (below_on (below_on (below_al _ _) (below_al _ _)) (below_al _ _))
  have HB3 := Lib.hid hb3
  have HI0 := Lib.hid I0
  have HI2 := Lib.hid I2
  clear hv hok hP hl hcap I0 I2 hb3 hns hm hhl hra hmm e1
  unfold rbankV at RH
  unfold rbankV opV10
  go_enter Try.func10, Try.ntmps10
  go_wp2_with fail
  refine (RH.out _ HB3.out).mono ?_
  rintro e w1 ⟨v9, rfl, hown, hb1⟩
  rw [show (((w.alloc (.cells #[.int .i64 C, .slice A n cc] 31)).alloc (.cells #[.int .i64 3, .int .i64 c, .int .i64 i] 24)).alloc (.cells #[.int .i64 0, .slice none 0 0] 31)).heap.size = w.heap.size + 1 + 1 + 1 from by simp] at hown
  have hlies := (Lies.of_own hown).weak (Q := fun b => w.heap.size + 1 + 1 < b) (fun b _ h => by omega)
  have h0 : DoAt10 w w1 P C (freeAll l (ns.take 0)) A n cc v9 ns := ⟨HI0.out.below hb1, HI2.out.below hb1, ((HV.out.weak (Q := fun b => P b ∧ b ≠ w.heap.size ∧ b ≠ w.heap.size + 1 + 1) (fun b hb h => ⟨h, by omega, by omega⟩)).below HB3.out).below hb1, HCAP.out, hlies, below_on HB3.out hb1⟩
  have H0 := Lib.hid h0
  obtain ⟨A9, n9, c9, rfl, HN9, HV9⟩ := hlies.open10
  have hn9 : n9 = m := by rw [← HN9.out]; exact E1.out
  subst hn9
  clear h0 hown hlies hb1
  go_wp2
  go_loopw [10] (fun iv wr => ∃ (j : Nat) (A' : Option Addr) (c' : Nat), j ≤ n9 ∧ iv = .int .i64 j ∧ Hid (DoAt10 w wr P C (freeAll l (ns.take j)) A' n c' (.slice A9 n9 c9) ns)) (fun iv _ => n9 - (intOf iv).toNat)
  case atStart => exact ⟨0, A, cc, Nat.zero_le _, rfl, H0⟩
  case round =>
    clear H0
    obtain ⟨j, A', c', hj, rfl, S⟩ := hrel
    have t0 := S.out.top.cell 0
    have t1 := S.out.top.cell 1
    have y0 := S.out.res.cell 0
    have y1 := S.out.res.cell 1
    have s0 := S.out.top.soft 0
    have s1 := S.out.top.soft 1
    have f0 := S.out.res.soft 0
    have f1 := S.out.res.soft 1
    simp only [List.getElem?_cons_zero, List.getElem?_cons_succ] at t0 t1 y0 y1
    have hw0 := S.out.top.lt
    have hw2 := S.out.res.lt
    by_cases hlt : j < n9
    · obtain ⟨A8, c8, hsl, hA⟩ := S.out.held
      rw [ints_len, E1.out] at hsl hA
      injection hsl with q1 _ q3
      subst q1 q3
      obtain ⟨b, ob, rfl, hbb, hbl, hcell⟩ := hA (by omega)
      obtain ⟨x, hx⟩ : ∃ x, ns[j]? = some x := ⟨_, List.getElem?_eq_getElem (by rw [HM.out]; exact hlt)⟩
      have hxl := HMEM.out x (List.mem_of_getElem? hx)
      have hxc : wr.cell? ⟨b, ob + j, none⟩ = some (.int .i64 x) := hcell j _ (ints_some (by simp [hx]))
      have hbw : b ≠ w.heap.size := by omega
      have RW := Lib.hid (fun d : Nat => rwith10_any _ C (.slice A' n c') (freeAll l (ns.take j)) x (-1) (wr.drewN d) (S.out.lies.below (below_q wr d)) S.out.cap (by rw [freeAll_len]; exact hxl) (by rw [freeAll_len]; exact HL.out))
      rw [← freeAll_more hx] at RW
      have SF : Hid (∀ d w2 A2 n2 c2, Below (wr.drewN d).heap.size (wr.drewN d) w2 → Lies w2 (fun b => (wr.drewN d).heap.size ≤ b) (.slice A2 n2 c2) (ints (freeAll l (ns.take (j + 1)))) → CapOk (.slice A2 n2 c2) →
          n2 = n ∧ DoAt10 w ((w2.setCell ⟨w.heap.size, 0, none⟩ (.int .i64 C)).setCell ⟨w.heap.size, 1, none⟩ (.slice A2 n2 c2)) P C (freeAll l (ns.take (j + 1))) A2 n2 c2 (.slice (some ⟨b, ob, none⟩) n9 c9) ns) := Lib.hid (fun d w2 A2 n2 c2 hb2 hv2 hc2 => by
        refine ⟨?_, (S.out.quiet (below_on (below_q wr d) hb2)).step (hv2.weak (fun b hb hp => ?_)) hc2⟩
        · obtain ⟨_, _, h, _⟩ := hv2
          injection h with _ h _
          rw [h, ints_len, freeAll_len, HN.out]
        · have hp' : wr.heap.size ≤ b := hp
          have := S.out.bel.size
          exact ⟨HP.out b (by omega), by omega, by omega⟩)
      clear hx hcell hA
      unfold rbankV at RW
      go_wp2_with fail
      go_region_with (go_at_call 22; refine (RW.out _).mono ?_; rintro e w2 ⟨v2, rfl, hv2, hcap2, hb2⟩; obtain ⟨A2, n2, c2, rfl, HN2, HV2⟩ := hv2.open10; obtain ⟨rfl, hd2⟩ := SF.out _ _ _ _ _ hb2 HV2.out hcap2; have S2 := Lib.hid hd2; have T2 := S.out.top.below (below_on (below_q _ _) hb2); have g0 := T2.cell 0; have g1 := T2.cell 1; have k0 := T2.soft 0; have k1 := T2.soft 1; simp only [List.getElem?_cons_zero, List.getElem?_cons_succ] at g0 g1; clear hv2 hd2 hb2 T2; unfold rbankV)
      all_goals go_wp2_with fail
      all_goals go_roundw
      all_goals first
        | exact ⟨j + 1, _, _, by omega, by go_num, S2⟩
        | (simp [intOf]; omega)
    · obtain rfl : j = n9 := by omega
      have hall : ns.take j = ns := List.take_of_length_le (by rw [HM.out]; exact Nat.le_refl _)
      have LL := S.out.lies
      rw [hall] at LL
      have HLL := Lib.hid LL
      clear LL hall
      go_wp2
      refine bodyPost_ret (v := .tuple #[.agg #[.int .i64 C, .slice A' n c'], .int .i64 j, .int .i64 0]) (by simp [results, Try.results10, go_sem, *]) rfl ?_
      have hO : Only (fun b => b = w.heap.size + 1 + 1) wr ((wr.setCell ⟨w.heap.size + 1 + 1, 0, none⟩ (.int .i64 C)).setCell ⟨w.heap.size + 1 + 1, 1, none⟩ (.slice A' n c')) := (only_put10 wr _ 0 _).trans (only_put10 _ _ 1 _)
      refine ⟨_, rfl, (HLL.out.only hO (fun b hb hp => hp.2.2 hb)).weak (fun b _ hp => hp.1), S.out.cap, (S.out.bel.setCell (p := ⟨w.heap.size + 1 + 1, 0, none⟩) (by show w.heap.size ≤ w.heap.size + 1 + 1; omega) _).setCell (p := ⟨w.heap.size + 1 + 1, 1, none⟩) (by show w.heap.size ≤ w.heap.size + 1 + 1; omega) _⟩

set_option linter.unusedVariables false in
set_option maxRecDepth 100000 in
set_option maxHeartbeats 2000000 in
theorem rdo10_3ob (P : Nat → Prop) (C : Nat) (v : Value) (l : List Int) (c : Int) (i : Int) (w : World) (hv : Lies w P v (ints l)) (hcap : CapOk v) (hl : l.length ≤ 16) (hok : ∀ (i : Nat) (x : Int), l[i]? = some x → OwnOk C x) (hP : ∀ b, w.heap.size ≤ b → P b) (q : 0 ≤ c) (q' : c < C) (r : (l.length : Int) ≤ i) :
    Calls Try.prog 10 #[rbankV C v, opV10 3 c i] w (RBankP P C (dL C l 3 c i) [.int .i64 (dX C l 3 c i), .int .i64 (dE C l 3 c i)] w) := by
  obtain ⟨e1, e2, e3⟩ := num3_ok (l := l) (i := i) (ckC_yes q q')
  rw [e1, e2, e3]
  clear e1 e2 e3
  obtain ⟨A, n, cc, rfl, HN, HV⟩ := hv.open10
  rw [HN.out] at r
  have r0 : 0 ≤ i := by omega
  have r1 : decide (i < (n : Int)) = false := by simp; omega
  obtain ⟨ns, hns⟩ : ∃ ns, heldN l c l.length = ns := ⟨_, rfl⟩
  have hm : ∀ i, i ∈ ns → i < l.length := fun i hi => by rw [← hns] at hi; exact (heldN_mem.1 hi).1
  have hhl : heldL l c l.length = ns.map (fun (i : Nat) => (i : Int)) := by unfold heldL; rw [hns]
  have hra : rheldA l c = ns.map (fun (i : Nat) => (i : Int)) := by unfold rheldA; rw [if_pos q]; exact hhl
  have hnl : ns.length ≤ 16 := by have := heldN_len l c l.length; rw [hns] at this; omega
  have RH := Lib.hid (fun W (hb : Below w.heap.size w W) => rheld10_any P C (.slice A n cc) l c W (HV.out.below hb) hl)
  rw [hra] at RH
  obtain ⟨m, hmm⟩ : ∃ m, ns.length = m := ⟨_, rfl⟩
  have e1 : (ns.map (fun (i : Nat) => (i : Int))).length = m := by rw [List.length_map, hmm]
  rw [hns, hhl, e1]
  rw [hmm] at hnl
  have HM := Lib.hid hmm
  have E1 := Lib.hid e1
  have HMEM := Lib.hid hm
  have HP := Lib.hid hP
  have HCAP := Lib.hid hcap
  have HL := Lib.hid hl
  have I0 := ((Row.new w 31 #[.int .i64 C, .slice A n cc]).below (below_al _ (.cells #[.int .i64 3, .int .i64 c, .int .i64 i] 24))).below (below_al _ (.cells #[.int .i64 0, .slice none 0 0] 31))
  have I2 := Row.new ((w.alloc (.cells #[.int .i64 C, .slice A n cc] 31)).alloc (.cells #[.int .i64 3, .int .i64 c, .int .i64 i] 24)) 31 #[.int .i64 0, .slice none 0 0]
  rw [show ((w.alloc (.cells #[.int .i64 C, .slice A n cc] 31)).alloc (.cells #[.int .i64 3, .int .i64 c, .int .i64 i] 24)).heap.size = w.heap.size + 1 + 1 from by simp] at I2
  have hb3 : Below w.heap.size w (((w.alloc (.cells #[.int .i64 C, .slice A n cc] 31)).alloc (.cells #[.int .i64 3, .int .i64 c, .int .i64 i] 24)).alloc (.cells #[.int .i64 0, .slice none 0 0] 31)) := (below_on (below_on (below_al _ _) (below_al _ _)) (below_al _ _))
  have HB3 := Lib.hid hb3
  have HI0 := Lib.hid I0
  have HI2 := Lib.hid I2
  clear hv hok hP hl hcap I0 I2 hb3 hns hm hhl hra hmm e1
  unfold rbankV at RH
  unfold rbankV opV10
  go_enter Try.func10, Try.ntmps10
  go_wp2_with fail
  refine (RH.out _ HB3.out).mono ?_
  rintro e w1 ⟨v9, rfl, hown, hb1⟩
  rw [show (((w.alloc (.cells #[.int .i64 C, .slice A n cc] 31)).alloc (.cells #[.int .i64 3, .int .i64 c, .int .i64 i] 24)).alloc (.cells #[.int .i64 0, .slice none 0 0] 31)).heap.size = w.heap.size + 1 + 1 + 1 from by simp] at hown
  have hlies := (Lies.of_own hown).weak (Q := fun b => w.heap.size + 1 + 1 < b) (fun b _ h => by omega)
  have h0 : DoAt10 w w1 P C (freeAll l (ns.take 0)) A n cc v9 ns := ⟨HI0.out.below hb1, HI2.out.below hb1, ((HV.out.weak (Q := fun b => P b ∧ b ≠ w.heap.size ∧ b ≠ w.heap.size + 1 + 1) (fun b hb h => ⟨h, by omega, by omega⟩)).below HB3.out).below hb1, HCAP.out, hlies, below_on HB3.out hb1⟩
  have H0 := Lib.hid h0
  obtain ⟨A9, n9, c9, rfl, HN9, HV9⟩ := hlies.open10
  have hn9 : n9 = m := by rw [← HN9.out]; exact E1.out
  subst hn9
  clear h0 hown hlies hb1
  go_wp2
  go_loopw [10] (fun iv wr => ∃ (j : Nat) (A' : Option Addr) (c' : Nat), j ≤ n9 ∧ iv = .int .i64 j ∧ Hid (DoAt10 w wr P C (freeAll l (ns.take j)) A' n c' (.slice A9 n9 c9) ns)) (fun iv _ => n9 - (intOf iv).toNat)
  case atStart => exact ⟨0, A, cc, Nat.zero_le _, rfl, H0⟩
  case round =>
    clear H0
    obtain ⟨j, A', c', hj, rfl, S⟩ := hrel
    have t0 := S.out.top.cell 0
    have t1 := S.out.top.cell 1
    have y0 := S.out.res.cell 0
    have y1 := S.out.res.cell 1
    have s0 := S.out.top.soft 0
    have s1 := S.out.top.soft 1
    have f0 := S.out.res.soft 0
    have f1 := S.out.res.soft 1
    simp only [List.getElem?_cons_zero, List.getElem?_cons_succ] at t0 t1 y0 y1
    have hw0 := S.out.top.lt
    have hw2 := S.out.res.lt
    by_cases hlt : j < n9
    · obtain ⟨A8, c8, hsl, hA⟩ := S.out.held
      rw [ints_len, E1.out] at hsl hA
      injection hsl with q1 _ q3
      subst q1 q3
      obtain ⟨b, ob, rfl, hbb, hbl, hcell⟩ := hA (by omega)
      obtain ⟨x, hx⟩ : ∃ x, ns[j]? = some x := ⟨_, List.getElem?_eq_getElem (by rw [HM.out]; exact hlt)⟩
      have hxl := HMEM.out x (List.mem_of_getElem? hx)
      have hxc : wr.cell? ⟨b, ob + j, none⟩ = some (.int .i64 x) := hcell j _ (ints_some (by simp [hx]))
      have hbw : b ≠ w.heap.size := by omega
      have RW := Lib.hid (fun d : Nat => rwith10_any _ C (.slice A' n c') (freeAll l (ns.take j)) x (-1) (wr.drewN d) (S.out.lies.below (below_q wr d)) S.out.cap (by rw [freeAll_len]; exact hxl) (by rw [freeAll_len]; exact HL.out))
      rw [← freeAll_more hx] at RW
      have SF : Hid (∀ d w2 A2 n2 c2, Below (wr.drewN d).heap.size (wr.drewN d) w2 → Lies w2 (fun b => (wr.drewN d).heap.size ≤ b) (.slice A2 n2 c2) (ints (freeAll l (ns.take (j + 1)))) → CapOk (.slice A2 n2 c2) →
          n2 = n ∧ DoAt10 w ((w2.setCell ⟨w.heap.size, 0, none⟩ (.int .i64 C)).setCell ⟨w.heap.size, 1, none⟩ (.slice A2 n2 c2)) P C (freeAll l (ns.take (j + 1))) A2 n2 c2 (.slice (some ⟨b, ob, none⟩) n9 c9) ns) := Lib.hid (fun d w2 A2 n2 c2 hb2 hv2 hc2 => by
        refine ⟨?_, (S.out.quiet (below_on (below_q wr d) hb2)).step (hv2.weak (fun b hb hp => ?_)) hc2⟩
        · obtain ⟨_, _, h, _⟩ := hv2
          injection h with _ h _
          rw [h, ints_len, freeAll_len, HN.out]
        · have hp' : wr.heap.size ≤ b := hp
          have := S.out.bel.size
          exact ⟨HP.out b (by omega), by omega, by omega⟩)
      clear hx hcell hA
      unfold rbankV at RW
      go_wp2_with fail
      go_region_with (go_at_call 22; refine (RW.out _).mono ?_; rintro e w2 ⟨v2, rfl, hv2, hcap2, hb2⟩; obtain ⟨A2, n2, c2, rfl, HN2, HV2⟩ := hv2.open10; obtain ⟨rfl, hd2⟩ := SF.out _ _ _ _ _ hb2 HV2.out hcap2; have S2 := Lib.hid hd2; have T2 := S.out.top.below (below_on (below_q _ _) hb2); have g0 := T2.cell 0; have g1 := T2.cell 1; have k0 := T2.soft 0; have k1 := T2.soft 1; simp only [List.getElem?_cons_zero, List.getElem?_cons_succ] at g0 g1; clear hv2 hd2 hb2 T2; unfold rbankV)
      all_goals go_wp2_with fail
      all_goals go_roundw
      all_goals first
        | exact ⟨j + 1, _, _, by omega, by go_num, S2⟩
        | (simp [intOf]; omega)
    · obtain rfl : j = n9 := by omega
      have hall : ns.take j = ns := List.take_of_length_le (by rw [HM.out]; exact Nat.le_refl _)
      have LL := S.out.lies
      rw [hall] at LL
      have HLL := Lib.hid LL
      clear LL hall
      go_wp2
      refine bodyPost_ret (v := .tuple #[.agg #[.int .i64 C, .slice A' n c'], .int .i64 j, .int .i64 0]) (by simp [results, Try.results10, go_sem, *]) rfl ?_
      have hO : Only (fun b => b = w.heap.size + 1 + 1) wr ((wr.setCell ⟨w.heap.size + 1 + 1, 0, none⟩ (.int .i64 C)).setCell ⟨w.heap.size + 1 + 1, 1, none⟩ (.slice A' n c')) := (only_put10 wr _ 0 _).trans (only_put10 _ _ 1 _)
      refine ⟨_, rfl, (HLL.out.only hO (fun b hb hp => hp.2.2 hb)).weak (fun b _ hp => hp.1), S.out.cap, (S.out.bel.setCell (p := ⟨w.heap.size + 1 + 1, 0, none⟩) (by show w.heap.size ≤ w.heap.size + 1 + 1; omega) _).setCell (p := ⟨w.heap.size + 1 + 1, 1, none⟩) (by show w.heap.size ≤ w.heap.size + 1 + 1; omega) _⟩

set_option linter.unusedVariables false in
set_option maxRecDepth 100000 in
set_option maxHeartbeats 2000000 in
theorem rdo10_3oo (P : Nat → Prop) (C : Nat) (v : Value) (l : List Int) (c : Int) (k : Nat) (w : World) (hv : Lies w P v (ints l)) (hcap : CapOk v) (hl : l.length ≤ 16) (hok : ∀ (i : Nat) (x : Int), l[i]? = some x → OwnOk C x) (hP : ∀ b, w.heap.size ≤ b → P b) (q : 0 ≤ c) (q' : c < C) (r : k < l.length) :
    Calls Try.prog 10 #[rbankV C v, opV10 3 c (k : Int)] w (RBankP P C (dL C l 3 c (k : Int)) [.int .i64 (dX C l 3 c (k : Int)), .int .i64 (dE C l 3 c (k : Int))] w) := by
  obtain ⟨e1, e2, e3⟩ := num3_ok (l := l) (i := (k : Int)) (ckC_yes q q')
  rw [e1, e2, e3]
  clear e1 e2 e3
  obtain ⟨A, n, cc, rfl, HN, HV⟩ := hv.open10
  rw [HN.out] at r
  have r0 : (0 : Int) ≤ (k : Int) := by omega
  have r1 : (k : Int) < (n : Int) := by omega
  obtain ⟨ns, hns⟩ : ∃ ns, heldN l c l.length = ns := ⟨_, rfl⟩
  have hm : ∀ i, i ∈ ns → i < l.length := fun i hi => by rw [← hns] at hi; exact (heldN_mem.1 hi).1
  have hhl : heldL l c l.length = ns.map (fun (i : Nat) => (i : Int)) := by unfold heldL; rw [hns]
  have hra : rheldA l c = ns.map (fun (i : Nat) => (i : Int)) := by unfold rheldA; rw [if_pos q]; exact hhl
  have hnl : ns.length ≤ 16 := by have := heldN_len l c l.length; rw [hns] at this; omega
  have RH := Lib.hid (fun W (hb : Below w.heap.size w W) => rheld10_any P C (.slice A n cc) l c W (HV.out.below hb) hl)
  rw [hra] at RH
  obtain ⟨m, hmm⟩ : ∃ m, ns.length = m := ⟨_, rfl⟩
  have e1 : (ns.map (fun (i : Nat) => (i : Int))).length = m := by rw [List.length_map, hmm]
  rw [hns, hhl, e1]
  rw [hmm] at hnl
  have HM := Lib.hid hmm
  have E1 := Lib.hid e1
  have HMEM := Lib.hid hm
  have HP := Lib.hid hP
  have HCAP := Lib.hid hcap
  have HL := Lib.hid hl
  have I0 := ((Row.new w 31 #[.int .i64 C, .slice A n cc]).below (below_al _ (.cells #[.int .i64 3, .int .i64 c, .int .i64 (k : Int)] 24))).below (below_al _ (.cells #[.int .i64 0, .slice none 0 0] 31))
  have I2 := Row.new ((w.alloc (.cells #[.int .i64 C, .slice A n cc] 31)).alloc (.cells #[.int .i64 3, .int .i64 c, .int .i64 (k : Int)] 24)) 31 #[.int .i64 0, .slice none 0 0]
  rw [show ((w.alloc (.cells #[.int .i64 C, .slice A n cc] 31)).alloc (.cells #[.int .i64 3, .int .i64 c, .int .i64 (k : Int)] 24)).heap.size = w.heap.size + 1 + 1 from by simp] at I2
  have hb3 : Below w.heap.size w (((w.alloc (.cells #[.int .i64 C, .slice A n cc] 31)).alloc (.cells #[.int .i64 3, .int .i64 c, .int .i64 (k : Int)] 24)).alloc (.cells #[.int .i64 0, .slice none 0 0] 31)) := (below_on (below_on (below_al _ _) (below_al _ _)) (below_al _ _))
  have HB3 := Lib.hid hb3
  have HI0 := Lib.hid I0
  have HI2 := Lib.hid I2
  clear hv hok hP hl hcap I0 I2 hb3 hns hm hhl hra hmm e1
  unfold rbankV at RH
  unfold rbankV opV10
  go_enter Try.func10, Try.ntmps10
  go_wp2_with fail
  refine (RH.out _ HB3.out).mono ?_
  rintro e w1 ⟨v9, rfl, hown, hb1⟩
  rw [show (((w.alloc (.cells #[.int .i64 C, .slice A n cc] 31)).alloc (.cells #[.int .i64 3, .int .i64 c, .int .i64 (k : Int)] 24)).alloc (.cells #[.int .i64 0, .slice none 0 0] 31)).heap.size = w.heap.size + 1 + 1 + 1 from by simp] at hown
  have hlies := (Lies.of_own hown).weak (Q := fun b => w.heap.size + 1 + 1 < b) (fun b _ h => by omega)
  have h0 : DoAt10 w w1 P C (freeAll l (ns.take 0)) A n cc v9 ns := ⟨HI0.out.below hb1, HI2.out.below hb1, ((HV.out.weak (Q := fun b => P b ∧ b ≠ w.heap.size ∧ b ≠ w.heap.size + 1 + 1) (fun b hb h => ⟨h, by omega, by omega⟩)).below HB3.out).below hb1, HCAP.out, hlies, below_on HB3.out hb1⟩
  have H0 := Lib.hid h0
  obtain ⟨A9, n9, c9, rfl, HN9, HV9⟩ := hlies.open10
  have hn9 : n9 = m := by rw [← HN9.out]; exact E1.out
  subst hn9
  clear h0 hown hlies hb1
  go_wp2
  go_loopw [10] (fun iv wr => ∃ (j : Nat) (A' : Option Addr) (c' : Nat), j ≤ n9 ∧ iv = .int .i64 j ∧ Hid (DoAt10 w wr P C (freeAll l (ns.take j)) A' n c' (.slice A9 n9 c9) ns)) (fun iv _ => n9 - (intOf iv).toNat)
  case atStart => exact ⟨0, A, cc, Nat.zero_le _, rfl, H0⟩
  case round =>
    clear H0
    obtain ⟨j, A', c', hj, rfl, S⟩ := hrel
    have t0 := S.out.top.cell 0
    have t1 := S.out.top.cell 1
    have y0 := S.out.res.cell 0
    have y1 := S.out.res.cell 1
    have s0 := S.out.top.soft 0
    have s1 := S.out.top.soft 1
    have f0 := S.out.res.soft 0
    have f1 := S.out.res.soft 1
    simp only [List.getElem?_cons_zero, List.getElem?_cons_succ] at t0 t1 y0 y1
    have hw0 := S.out.top.lt
    have hw2 := S.out.res.lt
    by_cases hlt : j < n9
    · obtain ⟨A8, c8, hsl, hA⟩ := S.out.held
      rw [ints_len, E1.out] at hsl hA
      injection hsl with q1 _ q3
      subst q1 q3
      obtain ⟨b, ob, rfl, hbb, hbl, hcell⟩ := hA (by omega)
      obtain ⟨x, hx⟩ : ∃ x, ns[j]? = some x := ⟨_, List.getElem?_eq_getElem (by rw [HM.out]; exact hlt)⟩
      have hxl := HMEM.out x (List.mem_of_getElem? hx)
      have hxc : wr.cell? ⟨b, ob + j, none⟩ = some (.int .i64 x) := hcell j _ (ints_some (by simp [hx]))
      have hbw : b ≠ w.heap.size := by omega
      have RW := Lib.hid (fun d : Nat => rwith10_any _ C (.slice A' n c') (freeAll l (ns.take j)) x (-1) (wr.drewN d) (S.out.lies.below (below_q wr d)) S.out.cap (by rw [freeAll_len]; exact hxl) (by rw [freeAll_len]; exact HL.out))
      rw [← freeAll_more hx] at RW
      have SF : Hid (∀ d w2 A2 n2 c2, Below (wr.drewN d).heap.size (wr.drewN d) w2 → Lies w2 (fun b => (wr.drewN d).heap.size ≤ b) (.slice A2 n2 c2) (ints (freeAll l (ns.take (j + 1)))) → CapOk (.slice A2 n2 c2) →
          n2 = n ∧ DoAt10 w ((w2.setCell ⟨w.heap.size, 0, none⟩ (.int .i64 C)).setCell ⟨w.heap.size, 1, none⟩ (.slice A2 n2 c2)) P C (freeAll l (ns.take (j + 1))) A2 n2 c2 (.slice (some ⟨b, ob, none⟩) n9 c9) ns) := Lib.hid (fun d w2 A2 n2 c2 hb2 hv2 hc2 => by
        refine ⟨?_, (S.out.quiet (below_on (below_q wr d) hb2)).step (hv2.weak (fun b hb hp => ?_)) hc2⟩
        · obtain ⟨_, _, h, _⟩ := hv2
          injection h with _ h _
          rw [h, ints_len, freeAll_len, HN.out]
        · have hp' : wr.heap.size ≤ b := hp
          have := S.out.bel.size
          exact ⟨HP.out b (by omega), by omega, by omega⟩)
      clear hx hcell hA
      unfold rbankV at RW
      go_wp2_with fail
      go_region_with (go_at_call 22; refine (RW.out _).mono ?_; rintro e w2 ⟨v2, rfl, hv2, hcap2, hb2⟩; obtain ⟨A2, n2, c2, rfl, HN2, HV2⟩ := hv2.open10; obtain ⟨rfl, hd2⟩ := SF.out _ _ _ _ _ hb2 HV2.out hcap2; have S2 := Lib.hid hd2; have T2 := S.out.top.below (below_on (below_q _ _) hb2); have g0 := T2.cell 0; have g1 := T2.cell 1; have k0 := T2.soft 0; have k1 := T2.soft 1; simp only [List.getElem?_cons_zero, List.getElem?_cons_succ] at g0 g1; clear hv2 hd2 hb2 T2; unfold rbankV)
      all_goals go_wp2_with fail
      all_goals go_roundw
      all_goals first
        | exact ⟨j + 1, _, _, by omega, by go_num, S2⟩
        | (simp [intOf]; omega)
    · obtain rfl : j = n9 := by omega
      have hall : ns.take j = ns := List.take_of_length_le (by rw [HM.out]; exact Nat.le_refl _)
      have LL := S.out.lies
      rw [hall] at LL
      have HLL := Lib.hid LL
      clear LL hall
      go_wp2
      refine bodyPost_ret (v := .tuple #[.agg #[.int .i64 C, .slice A' n c'], .int .i64 j, .int .i64 0]) (by simp [results, Try.results10, go_sem, *]) rfl ?_
      have hO : Only (fun b => b = w.heap.size + 1 + 1) wr ((wr.setCell ⟨w.heap.size + 1 + 1, 0, none⟩ (.int .i64 C)).setCell ⟨w.heap.size + 1 + 1, 1, none⟩ (.slice A' n c')) := (only_put10 wr _ 0 _).trans (only_put10 _ _ 1 _)
      refine ⟨_, rfl, (HLL.out.only hO (fun b hb hp => hp.2.2 hb)).weak (fun b _ hp => hp.1), S.out.cap, (S.out.bel.setCell (p := ⟨w.heap.size + 1 + 1, 0, none⟩) (by show w.heap.size ≤ w.heap.size + 1 + 1; omega) _).setCell (p := ⟨w.heap.size + 1 + 1, 1, none⟩) (by show w.heap.size ≤ w.heap.size + 1 + 1; omega) _⟩

#print axioms rdo10_3oo
end Go.Proofs.Ytdpoigeeechchaa
