/-
  Contracts of the reference of layer 4: Is, Put, Take, At.
  Conditions: those that each theorem states.
-/
import Derived.Test.YteknnofeichmlaaLane3
namespace Go.Proofs.Yteknnofeichmlaa
open Go.ChangeShapes Go.WideShapes Go.ChangeAt Go.RowKit

/-- The reference's queue as a value. -/
def laneV (N : Nat) (v : Value) : Value := .agg #[.int .i64 N, v]

set_option maxHeartbeats 400000 in
theorem ris4_yes (n : Int) (w : World) (h0 : 1 ≤ n) (h1 : n ≤ 64) :
    Calls Try.prog 8 #[.int .i64 n] w fun e w' => e = .returned (.bool true) ∧ w = w' := by
  go_enter Try.func8, Try.ntmps8
  go_wp2
  go_ret
  exact ⟨rfl, rfl⟩

set_option maxHeartbeats 400000 in
theorem ris4_no (n : Int) (w : World) (h : n < 1 ∨ 64 < n) :
    Calls Try.prog 8 #[.int .i64 n] w fun e w' => e = .returned (.bool false) ∧ w = w' := by
  rcases h with h | h
  · have h' : decide (1 ≤ n) = false := by simp; omega
    go_enter Try.func8, Try.ntmps8
    go_wp2
    go_ret
    exact ⟨rfl, rfl⟩
  · have h0 : 1 ≤ n := by omega
    have h' : decide (n ≤ 64) = false := by simp; omega
    go_enter Try.func8, Try.ntmps8
    go_wp2
    go_ret
    exact ⟨rfl, rfl⟩

/-- What a call of the reference leaves: the queue and the rest of what it answers. -/
def RLaneP (P : Nat → Prop) (N : Nat) (q : List Int) (rest : List Value) (w : World) (e : Ending) (w' : World) : Prop :=
  ∃ v, e = .returned (.tuple (laneV N v :: rest).toArray) ∧ Lies w' P v (ints q) ∧ CapOk v ∧ Below w.heap.size w w'

set_option maxHeartbeats 1000000 in
theorem rput_full (P : Nat → Prop) (N : Nat) (v : Value) (q : List Int) (x : Int) (w : World) (hv : Lies w P v (ints q)) (hcap : CapOk v) (hq : q.length = N) :
    Calls Try.prog 18 #[laneV N v, .int .i64 x] w (RLaneP P N q [.int .i64 5] w) := by
  have HV := Lib.hid hv
  obtain ⟨A, c, rfl, hA⟩ := hv
  rw [ints_len, hq] at HV hcap ⊢
  clear hA hq
  unfold laneV
  go_enter Try.func18, Try.ntmps18
  go_wp2
  have b2 : Below w.heap.size w ((w.alloc (.cells #[.int .i64 N, .slice A N c] 32)).alloc (.cells #[.int .i64 N, .slice A N c] 32)) := below_on (below_al _ _) (below_al _ _)
  exact bodyPost_ret (v := .tuple #[.agg #[.int .i64 N, .slice A N c], .int .i64 5]) (by simp [results, Try.results18, go_sem]) rfl ⟨_, rfl, HV.out.below b2, hcap, b2⟩

theorem cell_new_one (w : World) (u : Value) (t : TypeId) : ∀ j u', [u][j]? = some u' → (w.alloc (.cells #[u] t)).cell? ⟨w.heap.size, 0 + j, none⟩ = some u' := by
  intro j u' h
  have := Row.cell (Row.new w t #[u]) (0 + j)
  rw [Nat.zero_add] at this ⊢
  rw [this]
  exact h

theorem lies_new_one (w : World) (u : Value) (t : TypeId) (c : Nat) : Lies (w.alloc (.cells #[u] t)) (· = w.heap.size) (.slice (some ⟨w.heap.size, 0, none⟩) 1 c) [u] := Lies.of_row (P := (· = w.heap.size)) (Row.new w t #[u]) rfl c

set_option maxHeartbeats 1000000 in
theorem rput_room (P : Nat → Prop) (N : Nat) (v : Value) (q : List Int) (x : Int) (w : World) (hv : Lies w P v (ints q)) (hcap : CapOk v) (hq : q.length < N) (hN : N ≤ 64) (hP : ∀ b, w.heap.size ≤ b → P b) :
    Calls Try.prog 18 #[laneV N v, .int .i64 x] w (RLaneP P N (q ++ [x]) [.int .i64 0] w) := by
  obtain ⟨i0, hi0, hz0, hz1, hz2⟩ := info_parts int_info
  have HV := Lib.hid hv
  obtain ⟨A, c, rfl, hA⟩ := hv
  clear hA
  obtain ⟨n, hn⟩ : ∃ n, q.length = n := ⟨_, rfl⟩
  rw [ints_len, hn] at HV hcap ⊢
  rw [hn] at hq
  have HN := Lib.hid hn; clear hn
  have HP := Lib.hid hP; clear hP
  have g1 : ¬ ((N : Int) ≤ (n : Int)) := by omega
  have O1 := Lib.hid (ints_one q)
  unfold laneV
  go_enter Try.func18, Try.ntmps18
  go_wp2_with (first
    | (at_builtin
       refine app_walk _ rfl (.tmp 14) (.tmp 16) 30 rfl (w.heap.size + 2) 3 i0 _ 8 Try.underlying30 hi0 hz0 hz1 hz2 rfl (.slice none 0 0) 0 [] rfl (World.ownsRow_nil _ _ _ _) P A n c (ints q) rfl (HV.out.below (below_on (below_al _ _) (below_al _ _))) hcap O1.out (by unfold maxLen; omega) (by omega) (by simp) ?_
       intro v1 w1 hown1 hg1 hat1
       rw [Nat.zero_add, List.nil_append] at hown1
       have r0 : Row w1 w.heap.size 32 [.int .i64 N, .slice A n c] := ((Row.new w 32 #[.int .i64 N, .slice A n c]).below (below_al _ _)).of_grown hg1 (by simp [Value.ownBlock])
       have r1 : Row w1 (w.heap.size + 1) 32 [.int .i64 0, .slice none 0 0] := (by have h := (Row.new (w.alloc (.cells #[.int .i64 N, .slice A n c] 32)) 32 #[.int .i64 0, .slice none 0 0]).of_grown hg1 (by simp [Value.ownBlock]); simpa using h)
       have hb1 : Below w.heap.size w w1 := (below_on (below_al _ _) (below_al _ _)).grown hg1 (by simp; omega) (by simp [Value.ownBlock])
       have hs1 := hg1.size
       simp at hs1
       have R0 := Lib.hid r0
       have R1 := Lib.hid r1
       clear r0 r1 hg1 hat1)
    | (at_builtin
       refine app_walk _ rfl (.tmp 18) (.tmp 20) 30 rfl (w.heap.size + 2) 3 i0 _ 8 Try.underlying30 hi0 hz0 hz1 hz2 rfl v1 n (ints q) rfl (hown1.alloc _) (· = w1.heap.size) (some ⟨w1.heap.size, 0, none⟩) 1 1 [.int .i64 x] rfl (lies_new_one _ _ _ _) (Nat.le_refl _) (by intro u hu; simp at hu; subst hu; rfl) (by unfold maxLen; omega) (by omega) (by simp; omega) ?_
       intro v2 w2 hown2 hg2 hat2
       obtain ⟨g', cap', rfl, hbg, hlt'⟩ := hown2.form (by omega)
       have hne : ∀ b, b < w.heap.size + 2 → some b ≠ v1.ownBlock := (fun b hb e => by have := (hown1.lt b e.symm).1; omega)
       have r0 := ((R0.out.below (below_al w1 (.cells #[.int .i64 x] 3))).of_grown hg2 (hne _ (by omega)))
       have r1 := ((R1.out.below (below_al w1 (.cells #[.int .i64 x] 3))).of_grown hg2 (hne _ (by omega)))
       have hb2 : Below w.heap.size w w2 := (hb1.alloc hb1.size _).grown hg2 (by simp; omega) (fun k hk => by have := (hown1.lt k hk).1; omega)
       have c0 := r0.cell 0
       have c1 := r0.cell 1
       have d0 := r1.cell 0
       have d1 := r1.cell 1
       have f0 := r0.soft 0
       have f1 := r0.soft 1
       have e0 := r1.soft 0
       have e1 := r1.soft 1
       simp only [List.getElem?_cons_zero, List.getElem?_cons_succ] at c0 c1 d0 d1
       have HO := Lib.hid hown2
       clear hown2 hown1 r0 r1 hg2 hat2 hne))
  refine bodyPost_ret (v := .tuple #[.agg #[.int .i64 N, .slice (some ⟨g', 0, none⟩) (n + 1) cap'], .int .i64 0]) (by simp [results, Try.results18, go_sem, *]) rfl ⟨_, rfl, ?_, CapOk.of_own HO.out, ?_⟩
  · have hO : Only (fun b => b = w.heap.size ∨ b = w.heap.size + 1) w2 (((w2.setCell ⟨w.heap.size, 1, none⟩ (.slice (some ⟨g', 0, none⟩) (n + 1) cap')).setCell ⟨w.heap.size + 1, 0, none⟩ (.int .i64 N)).setCell ⟨w.heap.size + 1, 1, none⟩ (.slice (some ⟨g', 0, none⟩) (n + 1) cap')) :=
      (((Only.refl _ w2).setCell (.inl (.inl rfl)) _).setCell (.inl (.inr rfl)) _).setCell (.inl (.inr rfl)) _
    have hL := (Lies.of_own HO.out).only hO (fun g hg hp => by omega)
    rw [ints_append]
    exact hL.weak (fun g _ hp => HP.out g (by omega))
  · exact ((hb2.setCell (p := ⟨w.heap.size, 1, none⟩) (by simp) _).setCell (p := ⟨w.heap.size + 1, 0, none⟩) (by simp) _).setCell (p := ⟨w.heap.size + 1, 1, none⟩) (by simp) _

theorem rput_any (P : Nat → Prop) (N : Nat) (v : Value) (q : List Int) (x : Int) (w : World) (hv : Lies w P v (ints q)) (hcap : CapOk v) (hq : q.length ≤ N) (hN : N ≤ 64) (hP : ∀ b, w.heap.size ≤ b → P b) :
    Calls Try.prog 18 #[laneV N v, .int .i64 x] w (RLaneP P N (putQ N q x) [.int .i64 (putE N q)] w) := by
  by_cases hf : q.length = N
  · have h1 : putQ N q x = q := by unfold putQ; rw [if_pos hf]
    have h2 : putE N q = 5 := by unfold putE; rw [if_pos hf]
    rw [h1, h2]
    exact rput_full P N v q x w hv hcap hf
  · have h1 : putQ N q x = q ++ [x] := by unfold putQ; rw [if_neg hf]
    have h2 : putE N q = 0 := by unfold putE; rw [if_neg hf]
    rw [h1, h2]
    exact rput_room P N v q x w hv hcap (by omega) hN hP

/-- A slice of integers from k on, any capacity. -/
theorem slice_tail (A : Option Addr) (n c k : Nat) (hk : k ≤ n) (W : World) : (Instr.slice 30 (.slice A n c) (some (.int .i64 (k : Int))) none none).run Try.prog W = .ok (.slice (if c = k then A else A.map (·.add k)) (n - k) (c - k)) W := by
  have hz : (sizeOf (Try.prog.elem 30)).run Try.prog W = .ok 1 W := by
    have : Try.prog.elem 30 = 3 := by kernel_rfl
    rw [this]
    obtain ⟨i, hi, hs⟩ := Option.map_eq_some_iff.1 int_size
    simp [sizeOf, typeInfo, hi, hs]
  rw [run_slice_l (P := Try.prog) (w := W) 30 A n c (by kernel_rfl) .i64 (k : Int) (by omega) (by omega), hz]
  have e1 : ((k : Int)).toNat = k := by omega
  simp only [Result.andThen, sliced, e1, Nat.mul_one]

theorem Lies.tail_ {w : World} {P : Nat → Prop} {A : Option Addr} {c : Nat} {x : Value} {xs : List Value} (h : Lies w P (.slice A (xs.length + 1) c) (x :: xs)) (hcap : CapOk (.slice A (xs.length + 1) c)) :
    Lies w P (.slice (if c = 1 then A else A.map (·.add 1)) xs.length (c - 1)) xs ∧ CapOk (.slice (if c = 1 then A else A.map (·.add 1)) xs.length (c - 1)) := by
  obtain ⟨A', c', hv, hA⟩ := h
  injection hv with e1 e2 e3
  subst e1 e3
  obtain ⟨g, o, rfl, hP, hlt, hc⟩ := hA (by simp)
  have hcap' : xs.length + 1 ≤ c := hcap
  by_cases h1 : c = 1
  · have : xs = [] := List.eq_nil_of_length_eq_zero (by omega)
    subst this
    rw [if_pos h1]
    exact ⟨⟨_, _, rfl, fun h => absurd h (by simp)⟩, by show 0 ≤ _; omega⟩
  · rw [if_neg h1]
    refine ⟨⟨_, _, rfl, fun _ => ⟨g, o + 1, by simp [Addr.add], hP, hlt, fun j u hu => ?_⟩⟩, by show _ ≤ _; omega⟩
    have := hc (j + 1) u (by simpa using hu)
    rw [← this]
    congr 2
    omega

set_option maxHeartbeats 1000000 in
theorem rtake_empty (P : Nat → Prop) (N : Nat) (v : Value) (w : World) (hv : Lies w P v (ints [])) (hcap : CapOk v) :
    Calls Try.prog 19 #[laneV N v] w (RLaneP P N [] [.int .i64 0, .int .i64 6] w) := by
  have HV := Lib.hid hv
  obtain ⟨A, c, rfl, hA⟩ := hv
  clear hA
  rw [ints_len, List.length_nil] at HV hcap ⊢
  unfold laneV
  go_enter Try.func19, Try.ntmps19
  go_wp2
  have b2 : Below w.heap.size w ((w.alloc (.cells #[.int .i64 N, .slice A 0 c] 32)).alloc (.cells #[.int .i64 N, .slice A 0 c] 32)) := below_on (below_al _ _) (below_al _ _)
  exact bodyPost_ret (v := .tuple #[.agg #[.int .i64 N, .slice A 0 c], .int .i64 0, .int .i64 6]) (by simp [results, Try.results19, go_sem]) rfl ⟨_, rfl, HV.out.below b2, hcap, b2⟩

set_option maxHeartbeats 1000000 in
theorem rtake_some (P : Nat → Prop) (N : Nat) (v : Value) (x : Int) (t : List Int) (w : World) (hv : Lies w P v (ints (x :: t))) (hcap : CapOk v) (ht : t.length ≤ 64) :
    Calls Try.prog 19 #[laneV N v] w (RLaneP P N t [.int .i64 x, .int .i64 0] w) := by
  have hv0 := hv
  obtain ⟨A, c, rfl, hA⟩ := hv
  obtain ⟨g, o, rfl, hP, hlt, hc⟩ := hA (by simp [ints])
  have hc0 : w.cell? ⟨g, o, none⟩ = some (.int .i64 x) := by have := hc 0 _ rfl; rwa [Nat.add_zero] at this
  obtain ⟨n, hn⟩ : ∃ n, t.length = n := ⟨_, rfl⟩
  have hl : (ints (x :: t)).length = n + 1 := by rw [ints_len, List.length_cons, hn]
  rw [hl] at hv0 hcap ⊢
  have hL : Lies w P (.slice (if c = 1 then some ⟨g, o, none⟩ else (some (⟨g, o, none⟩ : Addr)).map (·.add 1)) n (c - 1)) (ints t) ∧ CapOk (.slice (if c = 1 then some ⟨g, o, none⟩ else (some (⟨g, o, none⟩ : Addr)).map (·.add 1)) n (c - 1)) := by
    have e : (ints t).length = n := by rw [ints_len, hn]
    subst e
    exact Lies.tail_ hv0 hcap
  obtain ⟨B, hB⟩ : ∃ B, B = (if c = 1 then some ⟨g, o, none⟩ else (some (⟨g, o, none⟩ : Addr)).map (·.add 1)) := ⟨_, rfl⟩
  have hs := fun W => slice_tail (some ⟨g, o, none⟩) (n + 1) c 1 (by omega) W
  rw [← hB] at hL hs
  rw [Nat.add_sub_cancel] at hs
  rw [hn] at ht
  have HL := Lib.hid hL
  clear hL hB hn hl hv0 hA hc
  have b1 : ((n : Int) + 1 == 0) = false := by simp; omega
  have k1 : ((1 : Nat) : Int) = 1 := rfl
  rw [k1] at hs
  clear k1
  unfold laneV
  go_enter Try.func19, Try.ntmps19
  go_wp2
  have b2 : Below w.heap.size w ((w.alloc (.cells #[.int .i64 N, .slice B n (c - 1)] 32)).alloc (.cells #[.int .i64 N, .slice B n (c - 1)] 32)) := below_on (below_al _ _) (below_al _ _)
  exact bodyPost_ret (v := .tuple #[.agg #[.int .i64 N, .slice B n (c - 1)], .int .i64 x, .int .i64 0]) (by simp [results, Try.results19, go_sem]) rfl ⟨_, rfl, HL.out.1.below b2, HL.out.2, b2⟩

theorem rtake_any (P : Nat → Prop) (N : Nat) (v : Value) (q : List Int) (w : World) (hv : Lies w P v (ints q)) (hcap : CapOk v) (hq : q.length ≤ 64) :
    Calls Try.prog 19 #[laneV N v] w (RLaneP P N q.tail [.int .i64 (takeV q), .int .i64 (takeE q)] w) := by
  cases q with
  | nil => exact rtake_empty P N v w hv hcap
  | cons x t => exact rtake_some P N v x t w hv hcap (by simp at hq; omega)

set_option maxHeartbeats 400000 in
theorem rat_no (P : Nat → Prop) (N : Nat) (v : Value) (q : List Int) (i : Int) (w : World) (hv : Lies w P v (ints q)) (hi : atB q i = false) :
    Calls Try.prog 20 #[laneV N v, .int .i64 i] w fun e w' => e = .returned (.tuple #[.int .i64 0, .bool false]) ∧ Below w.heap.size w w' := by
  obtain ⟨A, c, rfl, hA⟩ := hv
  rw [ints_len] at hA ⊢
  clear hA
  have hi' : ¬ (0 ≤ i ∧ i < q.length) := by simpa [atB] using hi
  clear hi
  unfold laneV
  by_cases h0 : i < 0
  · go_enter Try.func20, Try.ntmps20
    go_wp2
    go_ret2
    exact ⟨rfl, below_al _ _⟩
  · have h1 : (q.length : Int) ≤ i := by omega
    have b0 : decide (i < 0) = false := by simpa using h0
    go_enter Try.func20, Try.ntmps20
    go_wp2
    go_ret2
    exact ⟨rfl, below_al _ _⟩

set_option maxHeartbeats 400000 in
theorem rat_yes (P : Nat → Prop) (N : Nat) (v : Value) (q : List Int) (i : Int) (w : World) (hv : Lies w P v (ints q)) (hi : atB q i = true) :
    Calls Try.prog 20 #[laneV N v, .int .i64 i] w fun e w' => e = .returned (.tuple #[.int .i64 (atV q i), .bool true]) ∧ Below w.heap.size w w' := by
  obtain ⟨A, c, rfl, hA⟩ := hv
  rw [ints_len] at hA ⊢
  have hi' : 0 ≤ i ∧ i < q.length := by simpa [atB] using hi
  have hv : atV q i = q.getD i.toNat 0 := by unfold atV; rw [if_pos hi]
  obtain ⟨k, rfl⟩ := Int.eq_ofNat_of_zero_le hi'.1
  have hkq : k < q.length := by omega
  obtain ⟨x, hx⟩ : ∃ x, q[k]? = some x := ⟨_, List.getElem?_eq_getElem hkq⟩
  rw [Int.toNat_natCast, List.getD_eq_getElem?_getD, hx] at hv
  obtain ⟨g, o, rfl, hP, hlt, hc⟩ := hA (by omega)
  have hpl : w.cell? ⟨g, o + k, none⟩ = some (.int .i64 x) := hc k _ (ints_some hx)
  have HV := Lib.hid hv; clear hv
  clear hx hi hc hA
  have b0 : ¬ ((q.length : Int) ≤ (k : Int)) := by omega
  unfold laneV
  go_enter Try.func20, Try.ntmps20
  go_wp2
  go_ret2
  exact ⟨by rw [HV.out]; rfl, below_al _ _⟩

#print axioms rput_any
#print axioms rtake_any
#print axioms rat_yes
end Go.Proofs.Yteknnofeichmlaa
