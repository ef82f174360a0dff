/-
  Contracts of the reference of layer 5: Is, Put, Drain, Find.
  Conditions: those that each theorem states.
-/
import Derived.Test.YtgoogclcpnfmkaaRSbuf
namespace Go.Proofs.Ytgoogclcpnfmkaa
open Go.ChangeShapes Go.WideShapes Go.ChangeAt Go.RowKit

/-- The reference's buffer as a value; a store as a value. -/
def rbufV (N : Nat) (v : Value) : Value := .agg #[.int .i64 N, v]
def stV (a b : Int) : Value := .agg #[.int .i64 a, .int .i64 b]

set_option maxRecDepth 100000 in
set_option maxHeartbeats 400000 in
theorem ris5_yes (n : Int) (w : World) (h0 : 1 ≤ n) (h1 : n ≤ 16) :
    Calls Try.prog 33 #[.int .i64 n] w fun e w' => e = .returned (.bool true) ∧ w = w' := by
  go_enter Try.func33, Try.ntmps33
  go_wp2
  go_ret
  exact ⟨rfl, rfl⟩

set_option maxRecDepth 100000 in
set_option maxHeartbeats 400000 in
theorem ris5_no (n : Int) (w : World) (h : n < 1 ∨ 16 < n) :
    Calls Try.prog 33 #[.int .i64 n] w fun e w' => e = .returned (.bool false) ∧ w = w' := by
  rcases h with h | h
  · have h' : decide (1 ≤ n) = false := by simp; omega
    go_enter Try.func33, Try.ntmps33
    go_wp2
    go_ret
    exact ⟨rfl, rfl⟩
  · have h0 : 1 ≤ n := by omega
    have h' : decide (n ≤ 16) = false := by simp; omega
    go_enter Try.func33, Try.ntmps33
    go_wp2
    go_ret
    exact ⟨rfl, rfl⟩

/-- What a call of the reference leaves: the buffer and the rest of what it answers. -/
def RBufP (P : Nat → Prop) (N : Nat) (q : List (Int × Int)) (rest : List Value) (w : World) (e : Ending) (w' : World) : Prop :=
  ∃ v, e = .returned (.tuple (rbufV N v :: rest).toArray) ∧ Two w' P v (sts q) ∧ CapOk v ∧ Below w.heap.size w w'

set_option maxRecDepth 100000 in
set_option maxHeartbeats 1000000 in
theorem rbput_bad (P : Nat → Prop) (N : Nat) (v : Value) (q : List (Int × Int)) (a b : Int) (w : World) (hv : Two w P v (sts q)) (hcap : CapOk v) (hbad : ¬ (0 ≤ a ∧ a ≤ 65535 ∧ 0 ≤ b ∧ b ≤ 65535)) :
    Calls Try.prog 68 #[rbufV N v, stV a b] w (RBufP P N q [.int .i64 2] w) := by
  obtain ⟨A, n, c, rfl, HN, HV⟩ := hv.open_
  have b3 : Hid (∀ x y z : Obj, Below w.heap.size w (((w.alloc x).alloc y).alloc z)) := Lib.hid (fun x y z => below_on (below_on (below_al _ _) (below_al _ _)) (below_al _ _))
  clear hv
  unfold rbufV stV
  by_cases ha : 0 ≤ a ∧ a ≤ 65535
  · have hb : b < 0 ∨ 65535 < b := by omega
    obtain ⟨ha0, ha1⟩ := ha
    clear hbad
    go_enter Try.func68, Try.ntmps68
    go_wp2_with fail
    refine (ris_yes _ _ ha0 ha1).mono ?_
    rintro e w' ⟨rfl, rfl⟩
    go_wp2_with fail
    refine (ris_no _ _ hb).mono ?_
    rintro e w' ⟨rfl, rfl⟩
    go_wp2
    exact bodyPost_ret (v := .tuple #[.agg #[.int .i64 N, .slice A n c], .int .i64 2]) (by simp [results, Try.results68, go_sem]) rfl ⟨_, rfl, HV.out.below (b3.out _ _ _), hcap, b3.out _ _ _⟩
  · have hb : a < 0 ∨ 65535 < a := by omega
    clear hbad ha
    go_enter Try.func68, Try.ntmps68
    go_wp2_with fail
    refine (ris_no _ _ hb).mono ?_
    rintro e w' ⟨rfl, rfl⟩
    go_wp2
    exact bodyPost_ret (v := .tuple #[.agg #[.int .i64 N, .slice A n c], .int .i64 2]) (by simp [results, Try.results68, go_sem]) rfl ⟨_, rfl, HV.out.below (b3.out _ _ _), hcap, b3.out _ _ _⟩

set_option maxRecDepth 100000 in
set_option maxHeartbeats 1000000 in
theorem rbput_full (P : Nat → Prop) (N : Nat) (v : Value) (q : List (Int × Int)) (a b : Int) (w : World) (hv : Two w P v (sts q)) (hcap : CapOk v) (hok : okC a b) (hq : q.length = N) :
    Calls Try.prog 68 #[rbufV N v, stV a b] w (RBufP P N q [.int .i64 5] w) := by
  obtain ⟨A, n, c, rfl, HN, HV⟩ := hv.open_
  have b3 : Hid (∀ x y z : Obj, Below w.heap.size w (((w.alloc x).alloc y).alloc z)) := Lib.hid (fun x y z => below_on (below_on (below_al _ _) (below_al _ _)) (below_al _ _))
  obtain ⟨o1, o2, o3, o4⟩ := hok
  have hnN : n = N := by have := HN.out; rw [sts_len] at this; omega
  subst hnN
  clear hv hq HN
  unfold rbufV stV
  go_enter Try.func68, Try.ntmps68
  go_wp2_with (go_at_call 67; refine (ris_yes _ _ (by assumption) (by assumption)).mono ?_; rintro e w' ⟨rfl, rfl⟩)
  exact bodyPost_ret (v := .tuple #[.agg #[.int .i64 n, .slice A n c], .int .i64 5]) (by simp [results, Try.results68, go_sem]) rfl ⟨_, rfl, HV.out.below (b3.out _ _ _), hcap, b3.out _ _ _⟩

theorem st_info : (Try.prog.info? 62).map (fun i => (i.zero, i.size, i.bytes)) = some (some (.agg #[.int .i64 0, .int .i64 0]), 2, 16) := by kernel_rfl

theorem st_one (a b : Int) : ∀ u ∈ flat [(Value.int .i64 a, Value.int .i64 b)], u.oneCell' = true := by
  intro u hu
  simp only [flat, List.mem_cons, List.not_mem_nil, or_false] at hu
  rcases hu with rfl | rfl <;> rfl

set_option maxRecDepth 100000 in
set_option maxHeartbeats 1000000 in
theorem rbput_room (P : Nat → Prop) (N : Nat) (v : Value) (q : List (Int × Int)) (a b : Int) (w : World) (hv : Two w P v (sts q)) (hcap : CapOk v) (hok : okC a b) (hq : q.length < N) (hN : N ≤ 16) (hP : ∀ b, w.heap.size ≤ b → P b) :
    Calls Try.prog 68 #[rbufV N v, stV a b] w (RBufP P N (q ++ [(a, b)]) [.int .i64 0] w) := by
  obtain ⟨i0, hi0, hz0, hz1, hz2⟩ := info_parts st_info
  obtain ⟨A, n, c, rfl, HN, HV⟩ := hv.open_
  obtain ⟨o1, o2, o3, o4⟩ := hok
  have hn : n < N := by have := HN.out; rw [sts_len] at this; omega
  have b3 : Hid (∀ x y z : Obj, Below w.heap.size w (((w.alloc x).alloc y).alloc z)) := Lib.hid (fun x y z => below_on (below_on (below_al _ _) (below_al _ _)) (below_al _ _))
  have esum : flat (sts q) ++ flat [(Value.int .i64 a, Value.int .i64 b)] = flat (sts (q ++ [(a, b)])) := by rw [← flat_append, sts_append]; rfl
  have ES := Lib.hid esum
  have O1 := Lib.hid (sts_one q)
  have HP := Lib.hid hP
  have g1 : ¬ ((N : Int) ≤ (n : Int)) := by omega
  clear hv hq hP esum
  unfold rbufV stV
  go_enter Try.func68, Try.ntmps68
  go_wp2_with (first
    | (go_at_call 67; refine (ris_yes _ _ (by assumption) (by assumption)).mono ?_; rintro e w' ⟨rfl, rfl⟩)
    | (at_builtin
       refine app2_walk _ rfl (.tmp 25) (.tmp 27) 60 rfl (w.heap.size + 3) 62 i0 _ 16 Try.underlying60 hi0 hz0 hz1 hz2 rfl (.slice none 0 0) 0 [] rfl (World.ownsRow_nil _ _ _ _) P A n c (sts q) rfl (HV.out.below (b3.out _ _ _)) hcap O1.out (by unfold maxLen; omega) (by omega) (by simp) ?_
       intro v1 w1 hown1 hg1 hat1
       rw [Nat.zero_add, List.nil_append] at hown1
       have r0 : Row w1 w.heap.size 82 [.int .i64 N, .slice A n c] := (((Row.new w 82 #[.int .i64 N, .slice A n c]).below (below_al _ _)).below (below_al _ _)).of_grown hg1 (by simp [Value.ownBlock])
       have r1 : Row w1 (w.heap.size + 1) 62 [.int .i64 a, .int .i64 b] := (by have h := ((Row.new (w.alloc (.cells #[.int .i64 N, .slice A n c] 82)) 62 #[.int .i64 a, .int .i64 b]).below (below_al _ _)).of_grown hg1 (by simp [Value.ownBlock]); simpa using h)
       have r2 : Row w1 (w.heap.size + 1 + 1) 82 [.int .i64 0, .slice none 0 0] := (by have h := (Row.new ((w.alloc (.cells #[.int .i64 N, .slice A n c] 82)).alloc (.cells #[.int .i64 a, .int .i64 b] 62)) 82 #[.int .i64 0, .slice none 0 0]).of_grown hg1 (by simp [Value.ownBlock]); simpa using h)
       have hb1 : Below w.heap.size w w1 := (b3.out _ _ _).grown hg1 (by simp; omega) (by simp [Value.ownBlock])
       have hs1 := hg1.size
       simp at hs1
       have x0 := r1.cell 0
       have x1 := r1.cell 1
       simp only [List.getElem?_cons_zero, List.getElem?_cons_succ] at x0 x1
       have R0 := Lib.hid r0
       have R2 := Lib.hid r2
       clear r0 r1 r2 hg1 hat1)
    | (at_builtin
       refine app2_walk _ rfl (.tmp 29) (.tmp 31) 60 rfl (w.heap.size + 3) 62 i0 _ 16 Try.underlying60 hi0 hz0 hz1 hz2 rfl v1 n (flat (sts q)) rfl (hown1.alloc _) (· = w1.heap.size) (some ⟨w1.heap.size, 0, none⟩) 1 1 [(.int .i64 a, .int .i64 b)] rfl (Two.one _ _ _ _ _) (Nat.le_refl _) (st_one _ _) (by unfold maxLen; omega) (by omega) (by simp; omega) ?_
       intro v2 w2 hown2 hg2 hat2
       rw [ES.out] at hown2
       obtain ⟨g', cap', rfl, hbg, hlt'⟩ := hown2.form (by omega)
       have hne : ∀ b, b < w.heap.size + 3 → some b ≠ v1.ownBlock := (fun b hb e => by have := (hown1.lt b e.symm).1; omega)
       have r0 := ((R0.out.below (below_al w1 (.cells #[.int .i64 a, .int .i64 b] 62))).of_grown hg2 (hne _ (by omega)))
       have r2 := ((R2.out.below (below_al w1 (.cells #[.int .i64 a, .int .i64 b] 62))).of_grown hg2 (hne _ (by omega)))
       have hb2 : Below w.heap.size w w2 := (hb1.alloc hb1.size _).grown hg2 (by simp; omega) (fun k hk => by have := (hown1.lt k hk).1; omega)
       have c0 := r0.cell 0
       have c1 := r0.cell 1
       have d0 := r2.cell 0
       have d1 := r2.cell 1
       have f0 := r0.soft 0
       have f1 := r0.soft 1
       have e0 := r2.soft 0
       have e1 := r2.soft 1
       simp only [List.getElem?_cons_zero, List.getElem?_cons_succ] at c0 c1 d0 d1
       have HO := Lib.hid hown2
       clear hown2 hown1 r0 r2 hg2 hat2 hne x0 x1))
  have hO : Only (fun b => b = w.heap.size ∨ b = w.heap.size + 1 + 1) w2 (((w2.setCell ⟨w.heap.size, 1, none⟩ (.slice (some ⟨g', 0, none⟩) (n + 1) cap')).setCell ⟨w.heap.size + 1 + 1, 0, none⟩ (.int .i64 N)).setCell ⟨w.heap.size + 1 + 1, 1, none⟩ (.slice (some ⟨g', 0, none⟩) (n + 1) cap')) :=
    (((Only.refl _ w2).setCell (.inl (.inl rfl)) _).setCell (.inl (.inr rfl)) _).setCell (.inl (.inr rfl)) _
  refine bodyPost_ret (v := .tuple #[.agg #[.int .i64 N, .slice (some ⟨g', 0, none⟩) (n + 1) cap'], .int .i64 0]) (by simp [results, Try.results68, go_sem, *]) rfl ⟨_, rfl, ?_, CapOk.of_own HO.out, Only.below hb2 hO hb2.size (fun g hg e => by omega)⟩
  exact ((Two.of_own HO.out).only hO (fun g hg hp => by injection hp with hp; simp at hp; omega)).weak (fun g _ hp => HP.out g (by injection hp with hp; simp at hp; omega))

theorem rbput_any (P : Nat → Prop) (N : Nat) (v : Value) (q : List (Int × Int)) (a b : Int) (w : World) (hv : Two w P v (sts q)) (hcap : CapOk v) (hq : q.length ≤ N) (hN : N ≤ 16) (hP : ∀ b, w.heap.size ≤ b → P b) :
    Calls Try.prog 68 #[rbufV N v, stV a b] w (RBufP P N (bputQ N q a b) [.int .i64 (bputE N q a b)] w) := by
  unfold bputQ bputE
  by_cases hok : okB a b = false
  · rw [if_pos hok, if_pos hok]
    exact rbput_bad P N v q a b w hv hcap (by simpa [okB] using hok)
  · have hok' : okC a b := by unfold okC; simpa [okB] using hok
    rw [if_neg hok, if_neg hok]
    by_cases hf : q.length = N
    · rw [if_pos hf, if_pos hf]
      exact rbput_full P N v q a b w hv hcap hok' hf
    · rw [if_neg hf, if_neg hf]
      exact rbput_room P N v q a b w hv hcap hok' (by omega) hN hP

#print axioms rbput_any
end Go.Proofs.Ytgoogclcpnfmkaa
