/-
  Contracts of layer 4 (lane), third part: All, Clone.
  Conditions: those that each theorem states.
-/
import Derived.Test.YtfboikefjealfaaLane2
import Derived.Test.YtfboikefjealfaaApp
namespace Go.Proofs.Ytfboikefjealfaa
open Go.ChangeShapes Go.WideShapes Go.ChangeAt Go.RowKit

/-- What a call leaves that answers a new list. -/
def NewL (xs : List Value) (w : World) (e : Ending) (w' : World) : Prop :=
  ∃ v, e = .returned v ∧ Lies w' (w.heap.size ≤ ·) v xs ∧ CapOk v ∧ Below w.heap.size w w'

set_option maxRecDepth 100000 in
set_option maxHeartbeats 400000 in
theorem all_nil (w : World) :
    Calls Try.prog 46 #[.pointer none] w fun e w' => e = .returned (.slice none 0 0) ∧ w = w' := by
  go_enter Try.func46, Try.ntmps46
  go_wp2
  go_ret
  exact ⟨rfl, rfl⟩

theorem splice_two {α : Type} (Z X1 X2 : List α) (n : Nat) (hn : X1.length = n) (hZ : Z.length = n + X2.length) : splice (splice Z 0 X1) n X2 = X1 ++ X2 := by
  subst hn
  simp [splice, hZ]

/-- The ring's elements, as two runs. -/
theorem ring_parts (ring q : List Int) (f N n : Nat) (hl : ring.length = N) (hf : f < N) (hq : q.length ≤ N) (hn : n = min q.length (N - f)) (h : ∀ i, i < q.length → ring[(f + i) % N]? = q[i]?) :
    (ring.drop f).take n ++ ring.take (q.length - n) = q := by
  have e : ∀ a, a < N → (f + a) % N = if f + a < N then f + a else f + a - N := by
    intro a ha
    split
    · exact Nat.mod_eq_of_lt (by omega)
    · rw [Nat.mod_eq_sub_mod (by omega), Nat.mod_eq_of_lt (by omega)]
  apply List.ext_getElem?
  intro i
  have hlen : ((ring.drop f).take n).length = n := by simp; omega
  by_cases hi : i < q.length
  · rw [← h i hi, e i (by omega)]
    by_cases h1 : i < n
    · rw [List.getElem?_append_left (by omega), List.getElem?_take, if_pos h1, List.getElem?_drop, if_pos (by omega)]
    · rw [List.getElem?_append_right (by omega), hlen, List.getElem?_take, if_pos (by omega), if_neg (by omega)]
      congr 1
      omega
  · rw [List.getElem?_eq_none (by simp [hl]; omega), List.getElem?_eq_none (by omega)]

set_option maxRecDepth 100000 in
set_option maxHeartbeats 1000000 in
theorem all_any (g h N : Nat) (q : List Int) (w : World) (r : LaneQ w g h N q) :
    Calls Try.prog 46 #[ptr g] w (NewL (ints q) w) := by
  obtain ⟨f, ring, r⟩ := r
  obtain ⟨c, hq⟩ : ∃ c, q.length = c := ⟨_, rfl⟩
  obtain ⟨n, hn⟩ : ∃ n, n = min q.length (N - f) := ⟨_, rfl⟩
  have hp := r.pos
  have hm := r.most
  have hf := r.fst
  have hfit := r.fit
  have hcat := ring_parts ring q f N n r.len hf hfit hn r.at_
  rw [hq] at hfit hn hcat
  have hnc : n ≤ c := by omega
  have hnN : n ≤ N - f := by omega
  obtain ⟨X1, hX1⟩ : ∃ X1, X1 = ints ((ring.drop f).take n) := ⟨_, rfl⟩
  obtain ⟨X2, hX2⟩ : ∃ X2, X2 = ints (ring.take (c - n)) := ⟨_, rfl⟩
  have l1 : X1.length = n := by rw [hX1, ints_len]; simp [r.len]; omega
  have l2 : X2.length = c - n := by rw [hX2, ints_len]; simp [r.len]; omega
  have o1 : ∀ v ∈ X1, v.oneCell' = true := by rw [hX1]; exact ints_one _
  have o2 : ∀ v ∈ X2, v.oneCell' = true := by rw [hX2]; exact ints_one _
  have hcat' : X1 ++ X2 = ints q := by rw [hX1, hX2, ← ints_append, hcat]
  have s1 : ∀ j u, X1[j]? = some u → w.cell? ⟨h, f + j, none⟩ = some u := by
    intro j u hu
    rw [r.low.cell, ← hu, hX1]
    have hj : j < n := by rw [← l1]; exact (List.getElem?_eq_some_iff.1 hu).1
    simp only [ints, List.getElem?_map, List.getElem?_take, List.getElem?_drop]
    rw [if_pos hj]
  have s2 : ∀ j u, X2[j]? = some u → w.cell? ⟨h, 0 + j, none⟩ = some u := by
    intro j u hu
    rw [r.low.cell, ← hu, hX2, Nat.zero_add]
    have hj : j < c - n := by rw [← l2]; exact (List.getElem?_eq_some_iff.1 hu).1
    simp only [ints, List.getElem?_map, List.getElem?_take]
    rw [if_pos hj]
  have hc : w.cell? ⟨g, 0, none⟩ = some (.slice (some ⟨h, 0, none⟩) N N) := r.top.cell 0
  have hc1 : w.cell? ⟨g, 1, none⟩ = some (.int .i64 f) := r.top.cell 1
  have hc2 : w.cell? ⟨g, 2, none⟩ = some (.int .i64 c) := by rw [← hq]; exact r.top.cell 2
  have hgl := r.top.lt
  have hhl := r.low.lt
  have hmk := fun W => run_make_row' (P := Try.prog) 84 3 (.int .i64 0) 8 Try.underlying84 int_info rfl .i64 .i64 c (by omega) (by omega) W
  obtain ⟨A1, hs1, hA1⟩ := slice_from h N f (by omega)
  obtain ⟨A2, hs2, hA2⟩ := slice_from w.heap.size c n hnc
  have hr := Row.new w 3 (madeCells #[Value.int .i64 0] c)
  rw [ints_zeros] at hr
  obtain ⟨Z, hZ⟩ : ∃ Z, Z = ints (List.replicate c 0) := ⟨_, rfl⟩
  rw [← hZ] at hr
  have lZ : Z.length = c := by rw [hZ, ints_len]; simp
  have HR := Lib.hid hr; clear hr hZ
  have HZ := Lib.hid lZ; clear lZ
  have L1 := Lib.hid l1; clear l1
  have L2 := Lib.hid l2; clear l2
  have O1 := Lib.hid o1; clear o1
  have O2 := Lib.hid o2; clear o2
  have S1 := Lib.hid s1; clear s1
  have S2 := Lib.hid s2; clear s2
  have HC := Lib.hid hcat'; clear hcat' hcat
  have HA1 := Lib.hid hA1; clear hA1
  have HA2 := Lib.hid hA2; clear hA2
  have HN := Lib.hid hn; clear hn
  have HQ := Lib.hid hq; clear hq hX1 hX2
  have hb0 := Lib.hid (below_al w (.cells (madeCells #[Value.int .i64 0] c) 3))
  have i1 : (0 : Int) ≤ (f : Int) := by omega
  have i2 : (f : Int) ≤ (N : Int) := by omega
  have i3 : (0 : Int) ≤ (n : Int) := by omega
  have i4 : (n : Int) ≤ (c : Int) := by omega
  unfold ptr
  go_enter Try.func46, Try.ntmps46
  go_wp2
  go_region_held3 (fun w' => w'.cell? ⟨g, 0, none⟩ = some (.slice (some ⟨h, 0, none⟩) N N) ∧ w'.cell? ⟨g, 1, none⟩ = some (.int .i64 f))
    (first | go_keep | exact ⟨(hb2.cell (p := ⟨g, 0, none⟩) hgl).trans hc, (hb2.cell (p := ⟨g, 1, none⟩) hgl).trans hc1⟩)
    (first | (refine step_copy_splice rfl (.tmp 12) (.tmp 21) 84 84 rfl 3 Try.underlying84 int_size (some ⟨w.heap.size, 0, none⟩) A1 c c (N - f) (N - f) rfl rfl w.heap.size 0 Z 3 HR.out.raw X1 (by rw [L1.out, HN.out]; exact Nat.min_comm _ _) (fun hp => ⟨rfl, _, HA1.out (by omega), fun j u hu => (by rw [Addr.add_lit]; exact (hb0.out.drew.cell (p := ⟨h, f + j, none⟩) hhl).trans (S1.out j u hu))⟩) (by rw [L1.out, HZ.out]; omega) O1.out w.heap.size w hb0.out.drew (Nat.le_refl _) ?_; intro w2 hg2 hb2; rw [L1.out]))
  have hcA : w2.cell? ⟨g, 0, none⟩ = some (.slice (some ⟨h, 0, none⟩) N N) := (hb2.cell (p := ⟨g, 0, none⟩) hgl).trans hc
  go_wp2
  go_region_held3 (fun w' => w'.cell? ⟨g, 0, none⟩ = some (.slice (some ⟨h, 0, none⟩) N N))
    (first | go_keep | exact (hb3.cell (p := ⟨g, 0, none⟩) hgl).trans hc)
    (first | (refine step_copy_splice rfl (.tmp 25) (.tmp 29) 84 84 rfl 3 Try.underlying84 int_size A2 (some ⟨h, 0, none⟩) (c - n) (c - n) N N rfl rfl w.heap.size n (splice Z 0 X1) 3 hg2.out X2 (by rw [L2.out]; exact (Nat.min_eq_right (by omega)).symm) (fun hp => ⟨HA2.out (by rw [L2.out] at hp; omega), _, rfl, fun j u hu => (by rw [Addr.add_lit]; exact (hb2.drew.cell (p := ⟨h, 0 + j, none⟩) hhl).trans (S2.out j u hu))⟩) (by rw [L2.out, length_splice _ _ _ (by rw [L1.out, HZ.out]; omega), HZ.out]; omega) O2.out w.heap.size w hb2.drew (Nat.le_refl _) ?_; intro w3 hg3 hb3))
  go_wp2
  go_ret
  have hrow : Row w3 w.heap.size 3 (ints q) := by
    have h1 := hg3.out
    rwa [splice_two Z X1 X2 n L1.out (by rw [HZ.out, L2.out]; omega), HC.out] at h1
  refine ⟨_, rfl, ?_, Nat.le_refl _, hb3⟩
  have := Lies.of_row (P := (w.heap.size ≤ ·)) hrow (Nat.le_refl _) c
  rwa [ints_len, HQ.out] at this

set_option maxRecDepth 100000 in
set_option maxHeartbeats 400000 in
theorem cloneL_nil (w : World) :
    Calls Try.prog 33 #[.pointer none] w fun e w' => e = .returned (.pointer none) ∧ w = w' := by
  go_enter Try.func33, Try.ntmps33
  go_wp2
  go_ret
  exact ⟨rfl, rfl⟩

/-- What Clone leaves: a new queue with the same elements. -/
def CloneLP (N : Nat) (q : List Int) (w : World) (e : Ending) (w' : World) : Prop :=
  ∃ g h, e = .returned (ptr g) ∧ LaneQ w' g h N q ∧ w.heap.size ≤ g ∧ w.heap.size ≤ h ∧ Below w.heap.size w w'

set_option maxRecDepth 100000 in
set_option maxHeartbeats 1000000 in
theorem cloneL_any (g h N : Nat) (q : List Int) (w : World) (r : LaneQ w g h N q) :
    Calls Try.prog 33 #[ptr g] w (CloneLP N q w) := by
  obtain ⟨f, ring, r⟩ := r
  obtain ⟨c, hq⟩ : ∃ c, q.length = c := ⟨_, rfl⟩
  have hp := r.pos
  have hm := r.most
  have hf := r.fst
  have hfit := r.fit
  have hc : w.cell? ⟨g, 0, none⟩ = some (.slice (some ⟨h, 0, none⟩) N N) := r.top.cell 0
  have hc1 : w.cell? ⟨g, 1, none⟩ = some (.int .i64 f) := r.top.cell 1
  have hc2 : w.cell? ⟨g, 2, none⟩ = some (.int .i64 c) := by rw [← hq]; exact r.top.cell 2
  have hgl := r.top.lt
  have hhl := r.low.lt
  have hmk := fun W => run_make_row' (P := Try.prog) 84 3 (.int .i64 0) 8 Try.underlying84 int_info rfl .i64 .i64 N (by omega) (by omega) W
  have hr := Row.new w 3 (madeCells #[Value.int .i64 0] N)
  rw [ints_zeros] at hr
  have HR := Lib.hid hr; clear hr
  have HQ := Lib.hid hq; clear hq
  have hlen := Lib.hid r.len
  have hsrc := Lib.hid (fun (j : Nat) => r.low.cell j)
  unfold ptr
  go_enter Try.func33, Try.ntmps33
  go_wp2_with (with_reducible refine wpList_copy_splice rfl (.tmp 12) (.tmp 16) 84 84 rfl 3 Try.underlying84 int_size (some ⟨w.heap.size, 0, none⟩) (some ⟨h, 0, none⟩) N N N N rfl rfl w.heap.size 0 _ 3 HR.out.raw (ints ring) ?c1 ?c2 ?c3 (ints_one ring) w.heap.size w (below_al _ _) (Nat.le_refl _) ?_)
  case c1 => rw [ints_len, hlen.out]; exact (Nat.min_self _).symm
  case c2 =>
    intro hp j u hu
    exact (hsrc.out j).trans hu
  case c3 => simp [ints_len, hlen.out]
  intro w2 hw2 hb2
  have hcA : w2.cell? ⟨g, 1, none⟩ = some (.int .i64 f) := (hb2.cell (p := ⟨g, 1, none⟩) hgl).trans hc1
  have hcB : w2.cell? ⟨g, 2, none⟩ = some (.int .i64 c) := (hb2.cell (p := ⟨g, 2, none⟩) hgl).trans hc2
  have n1 := World.new_ne w2 _ hcA
  have n2 := World.new_ne w2 _ hcB
  go_wp2
  go_region_held3 (fun w' => w'.cell? ⟨g, 1, none⟩ = some (.int .i64 f) ∧ w'.cell? ⟨g, 2, none⟩ = some (.int .i64 c))
    (go_keep)
    (first | fail)
  go_wp2
  go_ret
  have hrow : Row w2 w.heap.size 3 (ints ring) := by
    have := hw2.out
    rwa [splice_all _ _ (by simp [ints_len, hlen.out])] at this
  refine ⟨w2.heap.size, w.heap.size, rfl, ⟨f, ring, ?_, hrow.below (below_al _ _).drew, r.len, hp, hm, hf, hfit, r.at_⟩, hb2.size, Nat.le_refl _, (hb2.alloc hb2.size _).drew⟩
  rw [HQ.out]
  exact Row.new w2 86 #[.slice (some ⟨w.heap.size, 0, none⟩) N N, .int .i64 f, .int .i64 c]

#print axioms all_any
#print axioms cloneL_any
end Go.Proofs.Ytfboikefjealfaa
