/-
  Layer 8 (site): the contract of spot.
  Conditions: those that each theorem states.
-/
import Derived.Test.YtbjmekedlmoolaaSite2
namespace Go.Proofs.Ytbjmekedlmoolaa
open Go.ChangeShapes Go.WideShapes Go.ChangeAt Go.RowKit

/-- What spot answers. -/
def SpotP (B I S R a : Int) (w : World) (e : Ending) (w' : World) : Prop :=
  ∃ i r b, e = .returned (.tuple #[v3 0 i r, .bool b]) ∧ Below w.heap.size w w' ∧
    ((b = true ∧ hasP I R i r ∧ a = B + i * S + r) ∨ (b = false ∧ i = 0 ∧ r = 0 ∧ ∀ i r, hasP I R i r → a ≠ B + i * S + r))

theorem two_news (w : World) (B I S R : Int) (W : World) (hb : Below ((w.alloc (.cells #[.int .i64 B, .int .i64 I, .int .i64 S, .int .i64 R] 45)).alloc (.cells #[.int .i64 0, .int .i64 0, .int .i64 0] 25)).heap.size ((w.alloc (.cells #[.int .i64 B, .int .i64 I, .int .i64 S, .int .i64 R] 45)).alloc (.cells #[.int .i64 0, .int .i64 0, .int .i64 0] 25)) W) :
    Row W (w.heap.size + 1) 25 [.int .i64 0, .int .i64 0, .int .i64 0] ∧ Below w.heap.size w W :=
  ⟨by simpa using (Row.new (w.alloc (.cells #[.int .i64 B, .int .i64 I, .int .i64 S, .int .i64 R] 45)) 25 #[.int .i64 0, .int .i64 0, .int .i64 0]).below hb, below_on (below_on (below_al _ _) (below_al _ _)) hb⟩

set_option maxRecDepth 100000 in
set_option maxHeartbeats 1000000 in
theorem spot_off (B I S R a : Int) (w : World) (h : I = 0 ∨ (I ≠ 0 ∧ a < B)) :
    Calls Try.prog 17 #[v4 B I S R, .int .i64 a] w fun e w' => e = .returned (.tuple #[v3 0 0 0, .bool false]) ∧ Below w.heap.size w w' := by
  have HW := Lib.hid (two_news w B I S R _ (Below.refl _ _))
  unfold v4 v3
  rcases h with h | ⟨h, h2⟩
  · have b0 : (I == 0) = true := by simpa using h
    clear h
    go_enter Try.func17, Try.ntmps17
    go_wp2
    refine bodyPost_ret (v := .tuple #[.agg #[.int .i64 0, .int .i64 0, .int .i64 0], .bool false]) (by simp [results, Try.results17, go_sem, *]) rfl ⟨rfl, ?_⟩
    exact HW.out.2
  · have b0 : (I == 0) = false := by simpa using h
    have b1 : decide (a < B) = true := by simpa using h2
    clear h h2
    go_enter Try.func17, Try.ntmps17
    go_wp2
    refine bodyPost_ret (v := .tuple #[.agg #[.int .i64 0, .int .i64 0, .int .i64 0], .bool false]) (by simp [results, Try.results17, go_sem, *]) rfl ⟨rfl, ?_⟩
    exact HW.out.2

theorem three_news (w : World) (B I S R q r : Int) (W : World) (hb : Below ((((w.alloc (.cells #[.int .i64 B, .int .i64 I, .int .i64 S, .int .i64 R] 45)).alloc (.cells #[.int .i64 0, .int .i64 0, .int .i64 0] 25)).alloc (.cells #[.int .i64 0, .int .i64 q, .int .i64 r] 25)).drew).heap.size ((((w.alloc (.cells #[.int .i64 B, .int .i64 I, .int .i64 S, .int .i64 R] 45)).alloc (.cells #[.int .i64 0, .int .i64 0, .int .i64 0] 25)).alloc (.cells #[.int .i64 0, .int .i64 q, .int .i64 r] 25)).drew) W) :
    Row W (w.heap.size + 1) 25 [.int .i64 0, .int .i64 0, .int .i64 0] ∧ Row W (w.heap.size + 1 + 1) 25 [.int .i64 0, .int .i64 q, .int .i64 r] ∧ Below w.heap.size w W := by
  obtain ⟨w1, h1⟩ : ∃ w1, w.alloc (.cells #[.int .i64 B, .int .i64 I, .int .i64 S, .int .i64 R] 45) = w1 := ⟨_, rfl⟩
  have b1 : Below w.heap.size w w1 := by subst h1; exact below_al _ _
  have s1 : w1.heap.size = w.heap.size + 1 := by subst h1; simp
  rw [h1] at hb
  obtain ⟨w2, h2⟩ : ∃ w2, w1.alloc (.cells #[.int .i64 0, .int .i64 0, .int .i64 0] 25) = w2 := ⟨_, rfl⟩
  have b2 : Below w1.heap.size w1 w2 := by subst h2; exact below_al _ _
  have r2 : Row w2 w1.heap.size 25 [.int .i64 0, .int .i64 0, .int .i64 0] := by subst h2; exact Row.new _ _ #[.int .i64 0, .int .i64 0, .int .i64 0]
  have s2 : w2.heap.size = w.heap.size + 1 + 1 := by subst h2; simp [s1]
  rw [h2] at hb
  obtain ⟨w3, h3⟩ : ∃ w3, (w2.alloc (.cells #[.int .i64 0, .int .i64 q, .int .i64 r] 25)).drew = w3 := ⟨_, rfl⟩
  have b3 : Below w2.heap.size w2 w3 := by subst h3; exact below_dn (below_al _ _) 1
  have r3 : Row w3 w2.heap.size 25 [.int .i64 0, .int .i64 q, .int .i64 r] := by subst h3; exact Row.new _ _ #[.int .i64 0, .int .i64 q, .int .i64 r]
  rw [h3] at hb
  refine ⟨?_, ?_, below_on b1 (below_on b2 (below_on b3 hb))⟩
  · rw [← s1]; exact (r2.below b3).below hb
  · rw [← s2]; exact r3.below hb

set_option maxRecDepth 100000 in
set_option maxHeartbeats 1000000 in
theorem spot_on (B I S R a q r : Int) (w : World) (hI : I ≠ 0) (hS : 1 ≤ S) (hB : 0 ≤ B) (haB : B ≤ a) (ha : a ≤ 9223372036854775807) (hq : (a - B) / S = q) (hr : (a - B) % S = r) (b : Bool) (hb : decide (hasP I R q r) = b) :
    Calls Try.prog 17 #[v4 B I S R, .int .i64 a] w fun e w' => e = .returned (.tuple #[if b then v3 0 q r else v3 0 0 0, .bool b]) ∧ Below w.heap.size w w' := by
  have b0 : (I == 0) = false := by simpa using hI
  have b1 : decide (a < B) = false := by simpa using haB
  have HH := Lib.hid (has8_any B I S R q r)
  have HB := Lib.hid hb
  clear hb
  have HN := Lib.hid (three_news w B I S R q r)
  have hd : (0 : Int) ≤ a - B ∧ a - B ≤ 9223372036854775807 := by omega
  unfold v4 at HH ⊢
  unfold v3
  go_enter Try.func17, Try.ntmps17
  go_wp2
  go_region
  go_wp2_with fail
  refine (HH.out _).mono ?_
  rintro e w1 ⟨rfl, hb1⟩
  rw [HB.out]
  obtain ⟨r1, r2, hb⟩ := HN.out _ hb1
  have c0 := r1.cell 0
  have c1 := r1.cell 1
  have c2 := r1.cell 2
  have f0 := r1.soft 0
  have f1 := r1.soft 1
  have f2 := r1.soft 2
  have d0 := r2.cell 0
  have d1 := r2.cell 1
  have d2 := r2.cell 2
  simp only [List.getElem?_cons_zero, List.getElem?_cons_succ] at c0 c1 c2 d0 d1 d2
  have HO := Lib.hid hb
  clear r1 r2 hb hb1 HB
  cases b
  · go_wp2
    refine bodyPost_ret (v := .tuple #[.agg #[.int .i64 0, .int .i64 0, .int .i64 0], .bool false]) (by simp [results, Try.results17, go_sem, *]) rfl ⟨rfl, ?_⟩
    exact (((HO.out.setCell (p := ⟨w.heap.size + 1, 0, none⟩) (by simp) _).setCell (p := ⟨w.heap.size + 1, 1, none⟩) (by simp) _).setCell (p := ⟨w.heap.size + 1, 2, none⟩) (by simp) _)
  · go_wp2
    refine bodyPost_ret (v := .tuple #[.agg #[.int .i64 0, .int .i64 q, .int .i64 r], .bool true]) (by simp [results, Try.results17, go_sem, *]) rfl ⟨rfl, ?_⟩
    exact (((HO.out.setCell (p := ⟨w.heap.size + 1, 0, none⟩) (by simp) _).setCell (p := ⟨w.heap.size + 1, 1, none⟩) (by simp) _).setCell (p := ⟨w.heap.size + 1, 2, none⟩) (by simp) _)

/-- What spot answers, in numbers. -/
theorem spot_any (B I S R a : Int) (w : World) (hI : I = 0 ∨ 1 ≤ S) (hB : 0 ≤ B) (hRS : R ≤ S) (ha : a ≤ 9223372036854775807) :
    Calls Try.prog 17 #[v4 B I S R, .int .i64 a] w (SpotP B I S R a w) := by
  have off : ∀ i r, hasP I R i r → 0 ≤ i * S + r ∧ I ≠ 0 := by
    rintro i r ⟨h1, h2, h3, h4⟩
    have : 0 ≤ i * S := Int.mul_nonneg h1 (by omega)
    omega
  by_cases h0 : I = 0 ∨ (I ≠ 0 ∧ a < B)
  · refine (spot_off B I S R a w h0).mono ?_
    rintro e w' ⟨rfl, hb⟩
    refine ⟨0, 0, false, rfl, hb, .inr ⟨rfl, rfl, rfl, fun i r h => ?_⟩⟩
    have := off i r h
    omega
  · have hI0 : I ≠ 0 := fun e => h0 (.inl e)
    have hab : B ≤ a := by omega
    have hS : 1 ≤ S := by omega
    refine (spot_on B I S R a _ _ w hI0 hS hB hab ha rfl rfl _ rfl).mono ?_
    rintro e w' ⟨rfl, hb⟩
    by_cases h : hasP I R ((a - B) / S) ((a - B) % S)
    · rw [decide_eq_true h]
      refine ⟨_, _, true, rfl, hb, .inl ⟨rfl, h, ?_⟩⟩
      have := Int.mul_ediv_add_emod (a - B) S
      rw [Int.mul_comm] at this
      omega
    · rw [decide_eq_false h]
      refine ⟨_, _, false, rfl, hb, .inr ⟨rfl, rfl, rfl, fun i r h' e => h ?_⟩⟩
      have e2 : a - B = r + i * S := by omega
      have hr : 0 ≤ r ∧ r < S := by obtain ⟨_, _, h3, h4⟩ := h'; omega
      rw [e2, Int.add_mul_ediv_right _ _ (by omega), Int.add_mul_emod_self_right, Int.ediv_eq_zero_of_lt hr.1 hr.2, Int.emod_eq_of_lt hr.1 hr.2, Int.zero_add]
      exact h'

#print axioms spot_any
end Go.Proofs.Ytbjmekedlmoolaa
