/-
  The walk of the law LaneNobody, and the reference's Do.
  Conditions: none.
-/
import Derived.Test.YteknnofeichmlaaLane4
namespace Go.Proofs.Yteknnofeichmlaa
open Go.ChangeShapes Go.WideShapes Go.ChangeAt Go.RowKit

set_option maxHeartbeats 1000000 in
theorem laneNobody_any (K x : Int) (w : World) :
    Calls Try.prog 5 #[opV4 K x] w fun e w' => e = .returned (.bool true) ∧ Below w.heap.size w w' := by
  obtain ⟨n, hn⟩ : ∃ n, nilF K = n := ⟨_, rfl⟩
  have dn := fun W => do4_nil K x W
  rw [hn] at dn
  have hk : (K = 0 ∧ n = 1) ∨ (K ≠ 0 ∧ K = 1 ∧ n = 1) ∨ (K ≠ 0 ∧ K ≠ 1 ∧ n = 0) := by
    unfold nilF at hn
    by_cases h0 : K = 0
    · left; rw [if_pos h0] at hn; exact ⟨h0, hn.symm⟩
    · by_cases h1 : K = 1
      · right; left; rw [if_neg h0, if_pos h1] at hn; exact ⟨h0, h1, hn.symm⟩
      · right; right; rw [if_neg h0, if_neg h1] at hn; exact ⟨h0, h1, hn.symm⟩
  clear hn
  have DN := Lib.hid dn; clear dn
  unfold opV4 at DN ⊢
  rcases hk with ⟨rfl, rfl⟩ | ⟨-, rfl, rfl⟩ | ⟨h0, h1, rfl⟩
  all_goals
    try (have b0 : (K == 0) = false := by simpa using h0)
    try (have b1 : (K == 1) = false := by simpa using h1)
    try clear h0 h1
    go_enter Try.func5, Try.ntmps5
    go_wp2_with fail
    refine (DN.out _).mono ?_
    rintro e w1 ⟨rfl, hb1⟩
    have hc1 := hb1.cell (p := ⟨w.heap.size, 0, none⟩) (by simp)
    simp [go_sem] at hc1
    go_wp2_with fail
    refine (cap_nil _).mono ?_
    rintro e w' ⟨rfl, rfl⟩
    go_wp2_with fail
    refine (len_nil _).mono ?_
    rintro e w' ⟨rfl, rfl⟩
    go_wp2_with fail
    refine (all_nil _).mono ?_
    rintro e w' ⟨rfl, rfl⟩
    go_wp2_with fail
    refine (cloneL_nil _).mono ?_
    rintro e w' ⟨rfl, rfl⟩
    go_wp2_with fail
    refine (lane_alive _).mono ?_
    rintro e w3 ⟨rfl, hb3⟩
    go_wp2
    go_ret
    exact ⟨rfl, below_on (below_on (below_al _ _) hb1) hb3⟩

/-- A list's slice, written out; what else is known of it stays hidden. -/
theorem Lies.open_ {w : World} {P : Nat → Prop} {v : Value} {q : List Int} (h : Lies w P v (ints q)) : ∃ A n c, v = .slice A n c ∧ Hid (q.length = n) ∧ Hid (Lies w P (.slice A n c) (ints q)) := by
  have h0 := h
  obtain ⟨A, c, rfl, _⟩ := h
  exact ⟨A, _, c, rfl, (ints_len q).symm, h0⟩

set_option maxHeartbeats 1000000 in
theorem rdo4_any (P : Nat → Prop) (N : Nat) (v : Value) (q : List Int) (K x : Int) (w : World) (hv : Lies w P v (ints q)) (hcap : CapOk v) (hq : q.length ≤ N) (hN : N ≤ 64) (hP : ∀ b, w.heap.size ≤ b → P b) :
    Calls Try.prog 10 #[laneV N v, opV4 K x] w (RLaneP P N (doQ N q K x) [.int .i64 (doX q K x), .int .i64 (doF N q K x)] w) := by
  obtain ⟨A, n, c, rfl, HN, HV⟩ := hv.open_
  clear hv
  obtain ⟨S, hS⟩ : ∃ S, S = w.heap.size + 1 + 1 := ⟨_, rfl⟩
  have hw : ∀ g, g < w.heap.size → P g → P g ∧ g ≠ S := fun g hg hp => ⟨hp, by omega⟩
  have L3 := Lib.hid (fun a b c : Obj => (((HV.out.weak (Q := fun b => P b ∧ b ≠ S) hw).below (below_al _ a)).below (below_al _ b)).below (below_al _ c))
  have B3 : Hid (∀ a b c : Obj, Below w.heap.size w (((w.alloc a).alloc b).alloc c)) := Lib.hid (fun a b c => below_on (below_on (below_al _ _) (below_al _ _)) (below_al _ _))
  have P3 : Hid (∀ a b c : Obj, ∀ d, (((w.alloc a).alloc b).alloc c).heap.size ≤ d → P d ∧ d ≠ S) := Lib.hid (fun a b c d hd => by simp at hd; exact ⟨hP d (by omega), by omega⟩)
  have R3 : Hid (∀ a b : Obj, Row (((w.alloc a).alloc b).alloc (.cells #[.int .i64 0, .slice none 0 0] 32)) (w.heap.size + 1 + 1) 32 [.int .i64 0, .slice none 0 0]) := Lib.hid (fun a b => by simpa using Row.new ((w.alloc a).alloc b) 32 #[.int .i64 0, .slice none 0 0])
  have R0 : Hid (∀ a b : Obj, Row (((w.alloc (.cells #[.int .i64 N, .slice A n c] 32)).alloc a).alloc b) w.heap.size 32 [.int .i64 N, .slice A n c]) := Lib.hid (fun a b => ((Row.new w 32 #[.int .i64 N, .slice A n c]).below (below_al _ a)).below (below_al _ b))
  have HS := Lib.hid hS; clear hS hw
  have HCap := Lib.hid hcap; clear hcap
  have HP := Lib.hid hP; clear hP
  unfold laneV opV4
  by_cases h0 : K = 0
  · subst h0
    go_enter Try.func10, Try.ntmps10
    go_wp2_with fail
    refine (rput_any _ N _ q x _ (L3.out _ _ _) HCap.out hq hN (P3.out _ _ _)).mono ?_
    rintro e w1 ⟨v1, rfl, hL1, hc1, hb1⟩
    have hr := (R3.out _ _).below hb1
    have d0 := hr.cell 0
    have d1 := hr.cell 1
    have e0 := hr.soft 0
    have e1 := hr.soft 1
    simp only [List.getElem?_cons_zero, List.getElem?_cons_succ] at d0 d1
    obtain ⟨A1, n1, c1, rfl, HN1, HL⟩ := hL1.open_
    have hs := hb1.size
    simp at hs
    have hb1' := Lib.hid (below_on (B3.out _ _ _) hb1)
    have HC1 := Lib.hid hc1
    unfold laneV
    have hne1 : w1.heap.size ≠ w.heap.size + 1 + 1 := by omega
    have hlt1 : w.heap.size + 1 + 1 < w1.heap.size := by omega
    clear hr hL1 hb1 hc1
    go_wp2
    have hO : Only (fun b => b = S) w1 (((w1.setCell ⟨w.heap.size + 1 + 1, 0, none⟩ (.int .i64 N)).setCell ⟨w.heap.size + 1 + 1, 1, none⟩ (.slice A1 n1 c1)).alloc (.cells #[.int .i64 N, .slice A1 n1 c1] 32)) :=
      (((Only.refl _ w1).setCell (.inl HS.out.symm) _).setCell (.inl HS.out.symm) _).alloc _
    refine bodyPost_ret (v := .tuple #[.agg #[.int .i64 N, .slice A1 n1 c1], .int .i64 0, .int .i64 (putE N q)]) (by simp [results, Try.results10, go_sem, *]) rfl ⟨_, rfl, (HL.out.only hO (fun g hg hp => hp.2 hg)).weak (fun g _ hp => hp.1), HC1.out, Only.below hb1'.out hO hb1'.out.size (fun g hg e => by have := HS.out; omega)⟩
  · by_cases h1 : K = 1
    · subst h1
      clear h0
      go_enter Try.func10, Try.ntmps10
      go_wp2_with fail
      refine (rtake_any _ N _ q _ (L3.out _ _ _) HCap.out (by omega)).mono ?_
      rintro e w1 ⟨v1, rfl, hL1, hc1, hb1⟩
      have hr := (R3.out _ _).below hb1
      have d0 := hr.cell 0
      have d1 := hr.cell 1
      have e0 := hr.soft 0
      have e1 := hr.soft 1
      simp only [List.getElem?_cons_zero, List.getElem?_cons_succ] at d0 d1
      obtain ⟨A1, n1, c1, rfl, HN1, HL⟩ := hL1.open_
      have hs := hb1.size
      simp at hs
      have hb1' := Lib.hid (below_on (B3.out _ _ _) hb1)
      have HC1 := Lib.hid hc1
      unfold laneV
      clear hr hL1 hb1 hc1
      go_wp2
      have hO : Only (fun b => b = S) w1 ((w1.setCell ⟨w.heap.size + 1 + 1, 0, none⟩ (.int .i64 N)).setCell ⟨w.heap.size + 1 + 1, 1, none⟩ (.slice A1 n1 c1)) :=
        ((Only.refl _ w1).setCell (.inl HS.out.symm) _).setCell (.inl HS.out.symm) _
      refine bodyPost_ret (v := .tuple #[.agg #[.int .i64 N, .slice A1 n1 c1], .int .i64 (takeV q), .int .i64 (takeE q)]) (by simp [results, Try.results10, go_sem, *]) rfl ⟨_, rfl, (HL.out.only hO (fun g hg hp => hp.2 hg)).weak (fun g _ hp => hp.1), HC1.out, Only.below hb1'.out hO hb1'.out.size (fun g hg e => by have := HS.out; omega)⟩
    · by_cases h2 : K = 2
      · subst h2
        clear h0 h1
        have e2 : doX q 2 x = n := by rw [← HN.out]; rfl
        have E2 := Lib.hid e2; clear e2
        go_enter Try.func10, Try.ntmps10
        go_wp2
        refine bodyPost_ret (v := .tuple #[.agg #[.int .i64 N, .slice none 0 0], .int .i64 (n : Int), .int .i64 0]) (by simp [results, Try.results10, go_sem]) rfl ⟨_, by rw [E2.out]; rfl, Lies.nil_ _ _, rfl, B3.out _ _ _⟩
      · have b0 : (K == 0) = false := by simpa using h0
        have b1 : (K == 1) = false := by simpa using h1
        have b2 : (K == 2) = false := by simpa using h2
        have e1 : doQ N q K x = q := by unfold doQ; rw [if_neg h0, if_neg h1, if_neg h2]
        have e2 : doX q K x = atV q x := by unfold doX; rw [if_neg h0, if_neg h1, if_neg h2]
        have e3 : doF N q K x = if atB q x then 1 else 0 := by unfold doF; rw [if_neg h0, if_neg h1, if_neg h2]
        have E1 := Lib.hid e1
        have E2 := Lib.hid e2
        clear e1 e2 h0 h1 h2
        cases hb : atB q x
        · have e4 : doF N q K x = 0 := by rw [e3, hb]; rfl
          have e5 : atV q x = 0 := by unfold atV; rw [hb]; rfl
          have E3 := Lib.hid e4
          have E5 := Lib.hid e5
          have HB := Lib.hid hb
          clear e3 e4 e5 hb
          go_enter Try.func10, Try.ntmps10
          go_wp2_with fail
          refine (rat_no _ N _ q x _ (L3.out _ _ _) HB.out).mono ?_
          rintro e w1 ⟨rfl, hb1⟩
          have hr := (R3.out _ _).below hb1
          have d0 := hr.cell 0
          have d1 := hr.cell 1
          have e0 := hr.soft 0
          have e1 := hr.soft 1
          have hq := (R0.out _ _).below hb1
          have c0 := hq.cell 0
          have c1 := hq.cell 1
          simp only [List.getElem?_cons_zero, List.getElem?_cons_succ] at d0 d1 c0 c1
          have hb1' := Lib.hid (below_on (B3.out _ _ _) hb1)
          have HL := Lib.hid ((L3.out _ _ _).below hb1)
          clear hr hb1 hq
          go_wp2
          have hO : Only (fun b => b = S) w1 ((w1.setCell ⟨w.heap.size + 1 + 1, 0, none⟩ (.int .i64 N)).setCell ⟨w.heap.size + 1 + 1, 1, none⟩ (.slice A n c)) :=
            ((Only.refl _ w1).setCell (.inl HS.out.symm) _).setCell (.inl HS.out.symm) _
          refine bodyPost_ret (v := .tuple #[.agg #[.int .i64 N, .slice A n c], .int .i64 (0), .int .i64 0]) (by simp [results, Try.results10, go_sem, *]) rfl ⟨_, by rw [E2.out, E3.out, E5.out]; rfl, ?_, HCap.out, Only.below hb1'.out hO hb1'.out.size (fun g hg e => by have := HS.out; omega)⟩
          rw [E1.out]
          exact (HL.out.only hO (fun g hg hp => hp.2 hg)).weak (fun g _ hp => hp.1)
        · have e4 : doF N q K x = 1 := by rw [e3, hb]; rfl
          have E3 := Lib.hid e4
          have HB := Lib.hid hb
          clear e3 e4 hb
          go_enter Try.func10, Try.ntmps10
          go_wp2_with fail
          refine (rat_yes _ N _ q x _ (L3.out _ _ _) HB.out).mono ?_
          rintro e w1 ⟨rfl, hb1⟩
          have hr := (R3.out _ _).below hb1
          have d0 := hr.cell 0
          have d1 := hr.cell 1
          have e0 := hr.soft 0
          have e1 := hr.soft 1
          have hq := (R0.out _ _).below hb1
          have c0 := hq.cell 0
          have c1 := hq.cell 1
          simp only [List.getElem?_cons_zero, List.getElem?_cons_succ] at d0 d1 c0 c1
          have hb1' := Lib.hid (below_on (B3.out _ _ _) hb1)
          have HL := Lib.hid ((L3.out _ _ _).below hb1)
          clear hr hb1 hq
          go_wp2
          have hO : Only (fun b => b = S) w1 ((w1.setCell ⟨w.heap.size + 1 + 1, 0, none⟩ (.int .i64 N)).setCell ⟨w.heap.size + 1 + 1, 1, none⟩ (.slice A n c)) :=
            ((Only.refl _ w1).setCell (.inl HS.out.symm) _).setCell (.inl HS.out.symm) _
          refine bodyPost_ret (v := .tuple #[.agg #[.int .i64 N, .slice A n c], .int .i64 (atV q x), .int .i64 1]) (by simp [results, Try.results10, go_sem, *]) rfl ⟨_, by rw [E2.out, E3.out]; rfl, ?_, HCap.out, Only.below hb1'.out hO hb1'.out.size (fun g hg e => by have := HS.out; omega)⟩
          rw [E1.out]
          exact (HL.out.only hO (fun g hg hp => hp.2 hg)).weak (fun g _ hp => hp.1)

#print axioms laneNobody_any
#print axioms rdo4_any
end Go.Proofs.Yteknnofeichmlaa
