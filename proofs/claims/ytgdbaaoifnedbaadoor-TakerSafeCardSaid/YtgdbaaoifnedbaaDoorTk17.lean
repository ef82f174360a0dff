/-
  Layer 17 (taker): the law's few and set; a memory's two lists.
  Conditions: those that each theorem states.
-/
import Derived.Test.YtgdbaaoifnedbaaDoorTk9
import Derived.Test.YtgdbaaoifnedbaaDoorArgs2
namespace Go.Proofs.YtgdbaaoifnedbaaDoor
open Go.ChangeShapes Go.WideShapes Go.ChangeAt Go.RowKit

/-- What few answers. -/
def few17B (B : Int) (n : Nat) : Bool := decide (n ≤ 150) && decide (B ≤ 500)
theorem few17_yes {B : Int} {n : Nat} (h : few17B B n = true) : n ≤ 150 ∧ B ≤ 500 := by
  simpa [few17B] using h

set_option maxRecDepth 100000 in
set_option maxHeartbeats 1000000 in
theorem few17_any (B R self peer own : Int) (A : Option Addr) (n c : Nat) (w : World) :
    Calls Tryd.prog 38 #[baseV17 B R self peer own, .slice A n c] w fun e w' => e = .returned (.bool (few17B B n)) ∧ Below w.heap.size w w' := by
  have B0 := below_al w (.cells #[.int .i64 B, .int .i64 R, .int .i64 self, .int .i64 peer, .int .i64 own] 25)
  unfold baseV17
  by_cases h1 : n ≤ 150
  · by_cases h2 : B ≤ 500
    · have g1 : decide ((n : Int) ≤ 150) = true := by simp; omega
      have g2 : decide (B ≤ 500) = true := by simpa using h2
      have HF : Hid (few17B B n = true) := Lib.hid (by unfold few17B; simp [h1, h2])
      clear h1 h2
      go_enter Tryd.func38, Tryd.ntmps38
      go_wp2
      go_ret
      rw [HF.out]
      exact ⟨rfl, B0⟩
    · have g1 : decide ((n : Int) ≤ 150) = true := by simp; omega
      have g2 : decide (B ≤ 500) = false := by simpa using h2
      have HF : Hid (few17B B n = false) := Lib.hid (by unfold few17B; simp [h2])
      clear h1 h2
      go_enter Tryd.func38, Tryd.ntmps38
      go_wp2
      go_ret
      rw [HF.out]
      exact ⟨rfl, B0⟩
  · have g1 : decide ((n : Int) ≤ 150) = false := by simp; omega
    have HF : Hid (few17B B n = false) := Lib.hid (by unfold few17B; simp [h1])
    clear h1
    go_enter Tryd.func38, Tryd.ntmps38
    go_wp2
    go_ret
    rw [HF.out]
    exact ⟨rfl, B0⟩

/-- What a call leaves that returns a list of its own. -/
def OwnL17 (xs : List Int) (w : World) (e : Ending) (w' : World) : Prop := ∃ v, e = .returned v ∧ w'.ownsRow w.heap.size 3 1 v xs.length (ints xs) ∧ Below w.heap.size w w'

set_option maxRecDepth 100000 in
set_option maxHeartbeats 2000000 in
theorem set17_any (P : Nat → Prop) (l : List Int) (v : Value) (i x : Int) (w : World) (hv : Lies w P v (ints l)) (hcap : CapOk v) (hl : l.length ≤ 100000) :
    Calls Tryd.prog 42 #[v, .int .i64 i, .int .i64 x] w (OwnL17 (put14 l i x) w) := by
  obtain ⟨i0, hi0, hz0, hz1, hz2⟩ := info_parts int_info
  obtain ⟨A, n, c, rfl, HN, HV⟩ := lies_open hv
  have hn : n ≤ 100000 := by rw [← HN.out]; exact hl
  have O1 := Lib.hid (ints_one l)
  have HPL := Lib.hid (put14_len l i x)
  clear hv hl
  cases h : in14 l i with
  | false =>
    have E := Lib.hid (put14_out x h)
    have h0 := in14_no h
    rw [HN.out] at h0
    clear h
    rcases h0 with h0 | ⟨h0, h1⟩
    · have d0 : decide (0 ≤ i) = false := by simp; omega
      go_enter Tryd.func42, Tryd.ntmps42
      go_wp2_with (at_builtin; go_must (refine app_walk _ rfl (.tmp 8) (.tmp 9) 33 rfl w.heap.size 3 i0 _ 8 Tryd.underlying33 hi0 hz0 hz1 hz2 rfl (.slice (some ⟨w.heap.size, 0, none⟩) 0 0) 0 [] rfl (own_empty _ _ _) P A n c (ints l) rfl (HV.out.below (below_al _ _)) hcap O1.out (by unfold maxLen; omega) (by omega) (by simp) ?_; intro v1 w1 hown1 hg1 hat1; rw [Nat.zero_add, List.nil_append] at hown1; obtain ⟨A1, c1, rfl⟩ := own_open14 hown1; have HO := Lib.hid hown1; have HB := Lib.hid ((below_al w (.cells #[] 3)).grown hg1 (by simp) (by intro k hk; simp only [Value.ownBlock, Option.some.injEq] at hk; omega)); clear hown1 hg1 hat1))
      go_ret
      exact ⟨_, rfl, by rw [E.out, HN.out]; exact HO.out, HB.out⟩
    · have d0 : decide (i < (n : Int)) = false := by simp; omega
      go_enter Tryd.func42, Tryd.ntmps42
      go_wp2_with (at_builtin; go_must (refine app_walk _ rfl (.tmp 8) (.tmp 9) 33 rfl w.heap.size 3 i0 _ 8 Tryd.underlying33 hi0 hz0 hz1 hz2 rfl (.slice (some ⟨w.heap.size, 0, none⟩) 0 0) 0 [] rfl (own_empty _ _ _) P A n c (ints l) rfl (HV.out.below (below_al _ _)) hcap O1.out (by unfold maxLen; omega) (by omega) (by simp) ?_; intro v1 w1 hown1 hg1 hat1; rw [Nat.zero_add, List.nil_append] at hown1; obtain ⟨A1, c1, rfl⟩ := own_open14 hown1; have HO := Lib.hid hown1; have HB := Lib.hid ((below_al w (.cells #[] 3)).grown hg1 (by simp) (by intro k hk; simp only [Value.ownBlock, Option.some.injEq] at hk; omega)); clear hown1 hg1 hat1))
      go_ret
      exact ⟨_, rfl, by rw [E.out, HN.out]; exact HO.out, HB.out⟩
  | true =>
    obtain ⟨k, y, rfl, hx, hk, _, e⟩ := in14_at h
    have E := Lib.hid (e x)
    rw [HN.out] at hk
    have hk' : (k : Int) < (n : Int) := by omega
    have h0 : (0 : Int) ≤ (k : Int) := by omega
    clear h e hx
    go_enter Tryd.func42, Tryd.ntmps42
    go_wp2_with (at_builtin; go_must (refine app_walk _ rfl (.tmp 8) (.tmp 9) 33 rfl w.heap.size 3 i0 _ 8 Tryd.underlying33 hi0 hz0 hz1 hz2 rfl (.slice (some ⟨w.heap.size, 0, none⟩) 0 0) 0 [] rfl (own_empty _ _ _) P A n c (ints l) rfl (HV.out.below (below_al _ _)) hcap O1.out (by unfold maxLen; omega) (by omega) (by simp) ?_; intro v1 w1 hown1 hg1 hat1; rw [Nat.zero_add, List.nil_append] at hown1; obtain ⟨g1, c1, rfl, hgb, hglt⟩ := hown1.form (by omega); have HO := Lib.hid hown1; have HB := Lib.hid ((below_al w (.cells #[] 3)).grown hg1 (by simp) (by intro k hk; simp only [Value.ownBlock, Option.some.injEq] at hk; omega)); have hxc : ∃ u, w1.cell? ⟨g1, k, none⟩ = some u := ⟨_, (hown1.cellAt k (by omega)).trans (List.getElem?_eq_getElem (by have := hown1.1; omega))⟩; have hfz := hown1.frozenAt k; clear hown1 hg1 hat1; obtain ⟨u1, hxc⟩ := hxc))
    go_ret
    refine ⟨_, rfl, ?_, HB.out.setCell (p := ⟨g1, k, none⟩) hgb _⟩
    rw [E.out]
    have := (HO.out.stored k (.int .i64 x)).1
    rw [List.length_set, HN.out, ints_set]
    exact this

/-- The world's two lists lie in memory. -/
structure Wld17 (w : World) (P : Nat → Prop) (V E : List Int) (v1 v2 : Value) : Prop where
  words : Lies w P v1 (ints V)
  epochs : Lies w P v2 (ints E)
  c1 : CapOk v1
  c2 : CapOk v2
theorem Wld17.only {S : Nat → Prop} {w w' : World} {P : Nat → Prop} {V E : List Int} {v1 v2 : Value} (h : Wld17 w P V E v1 v2) (ho : Only S w w') (hS : ∀ g, S g → ¬ P g) : Wld17 w' P V E v1 v2 := ⟨h.words.only ho hS, h.epochs.only ho hS, h.c1, h.c2⟩
theorem Wld17.below {w w' : World} {P : Nat → Prop} {V E : List Int} {v1 v2 : Value} (h : Wld17 w P V E v1 v2) (hb : Below w.heap.size w w') : Wld17 w' P V E v1 v2 := ⟨h.words.below hb, h.epochs.below hb, h.c1, h.c2⟩
theorem Wld17.weak {w : World} {P Q : Nat → Prop} {V E : List Int} {v1 v2 : Value} (h : Wld17 w P V E v1 v2) (hPQ : ∀ g, g < w.heap.size → P g → Q g) : Wld17 w Q V E v1 v2 := ⟨h.words.weak hPQ, h.epochs.weak hPQ, h.c1, h.c2⟩

#print axioms few17_any
#print axioms set17_any
end Go.Proofs.YtgdbaaoifnedbaaDoor
