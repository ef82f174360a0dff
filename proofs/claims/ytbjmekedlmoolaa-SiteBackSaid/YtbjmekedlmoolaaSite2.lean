/-
  Layer 8 (site): contracts of partOf and spot.
  Conditions: those that each theorem states.
-/
import Derived.Test.YtbjmekedlmoolaaSite
namespace Go.Proofs.Ytbjmekedlmoolaa
open Go.ChangeShapes Go.WideShapes Go.ChangeAt Go.RowKit

def pB (k : Int) : Int := if k = 2 then 65536 else if k = 3 then 65792 else if k = 4 then 66048 else 0
def pI (c l k : Int) : Int := if k = 1 then 1 else if k = 2 then c else if k = 3 then l else if k = 4 then c else 0
def pS (n k : Int) : Int := if k = 1 then n else if k = 2 then 16 else if k = 3 ∨ k = 4 then 1 else 0
def pR (n k : Int) : Int := if k = 1 then n else if k = 2 then 3 else if k = 3 ∨ k = 4 then 1 else 0

/-- What stands in the part of kind k, in numbers. -/
theorem part_spot {c n l k i r : Int} : (hasP (pI c l k) (pR n k) i r) ↔ IsSpot c n l (pB k + i * pS n k + r) k i r := by
  by_cases h1 : k = 1
  · subst h1; simp [hasP, pB, pI, pS, pR, IsSpot]; constructor
    · rintro ⟨a, b, d, e⟩
      obtain rfl : i = 0 := by omega
      simp; omega
    · rintro ⟨rfl, -, h1, h2⟩; simp at h1 h2; omega
  by_cases h2 : k = 2
  · subst h2; simp [hasP, pB, pI, pS, pR, IsSpot]; omega
  by_cases h3 : k = 3
  · subst h3; simp [hasP, pB, pI, pS, pR, IsSpot]; omega
  by_cases h4 : k = 4
  · subst h4; simp [hasP, pB, pI, pS, pR, IsSpot]; omega
  · simp only [hasP, pB, pI, pS, pR, IsSpot, h1, h2, h3, h4, if_false, false_and, or_false, iff_false]; omega

set_option maxRecDepth 100000 in
set_option maxHeartbeats 1000000 in
theorem partOf_ok (c n l k : Int) (w : World) (h : okPlan c n l) :
    Calls Try.prog 16 #[v3 c n l, .int .i64 k] w fun e w' => e = .returned (v4 (pB k) (pI c l k) (pS n k) (pR n k)) ∧ Below w.heap.size w w' := by
  have HD := Lib.hid (decide_eq_true h)
  have hk : k = 1 ∨ k = 2 ∨ k = 3 ∨ k = 4 ∨ (k ≠ 1 ∧ k ≠ 2 ∧ k ≠ 3 ∧ k ≠ 4) := by omega
  clear h
  have A0 : Hid (∀ W, Below ((w.alloc (.cells #[.int .i64 c, .int .i64 n, .int .i64 l] 23)).alloc (.cells #[.int .i64 0, .int .i64 0, .int .i64 0, .int .i64 0] 45)).heap.size ((w.alloc (.cells #[.int .i64 c, .int .i64 n, .int .i64 l] 23)).alloc (.cells #[.int .i64 0, .int .i64 0, .int .i64 0, .int .i64 0] 45)) W →
      Row W w.heap.size 23 [.int .i64 c, .int .i64 n, .int .i64 l] ∧ Row W (w.heap.size + 1) 45 [.int .i64 0, .int .i64 0, .int .i64 0, .int .i64 0] ∧ Below w.heap.size w W) := Lib.hid (fun W hb =>
    ⟨((Row.new w _ #[.int .i64 c, .int .i64 n, .int .i64 l]).below (below_al _ _)).below hb, by simpa using (Row.new (w.alloc (.cells #[.int .i64 c, .int .i64 n, .int .i64 l] 23)) 45 #[.int .i64 0, .int .i64 0, .int .i64 0, .int .i64 0]).below hb, below_on (below_on (below_al _ _) (below_al _ _)) hb⟩)
  rcases hk with rfl | rfl | rfl | rfl | ⟨h1, h2, h3, h4⟩
  all_goals
    try (have b1 : (k == 1) = false := by simpa using h1)
    try (have b2 : (k == 2) = false := by simpa using h2)
    try (have b3 : (k == 3) = false := by simpa using h3)
    try (have b4 : (k == 4) = false := by simpa using h4)
    first
      | (have E : Hid (v4 (pB k) (pI c l k) (pS n k) (pR n k) = v4 0 0 0 0) := Lib.hid (by simp [pB, pI, pS, pR, h1, h2, h3, h4]); rw [E.out])
      | (have E : Hid (v4 (pB 1) (pI c l 1) (pS n 1) (pR n 1) = v4 0 1 n n) := Lib.hid (by simp [pB, pI, pS, pR]); rw [E.out])
      | (have E : Hid (v4 (pB 2) (pI c l 2) (pS n 2) (pR n 2) = v4 65536 c 16 3) := Lib.hid (by simp [pB, pI, pS, pR]); rw [E.out])
      | (have E : Hid (v4 (pB 3) (pI c l 3) (pS n 3) (pR n 3) = v4 65792 l 1 1) := Lib.hid (by simp [pB, pI, pS, pR]); rw [E.out])
      | (have E : Hid (v4 (pB 4) (pI c l 4) (pS n 4) (pR n 4) = v4 66048 c 1 1) := Lib.hid (by simp [pB, pI, pS, pR]); rw [E.out])
    try clear h1 h2 h3 h4
    have RT := Lib.hid (right8_any c n l)
    unfold v3 at RT ⊢
    unfold v4
    go_enter Try.func16, Try.ntmps16
    go_wp2_with fail
    refine (RT.out _).mono ?_
    rintro e w1 ⟨rfl, hb1⟩
    rw [HD.out]
    obtain ⟨r0, r1, hb⟩ := A0.out _ hb1
    have c0 := r0.cell 0
    have c1 := r0.cell 1
    have c2 := r0.cell 2
    have d0 := r1.cell 0
    have d1 := r1.cell 1
    have d2 := r1.cell 2
    have d3 := r1.cell 3
    have f0 := r1.soft 0
    have f1 := r1.soft 1
    have f2 := r1.soft 2
    have f3 := r1.soft 3
    simp only [List.getElem?_cons_zero, List.getElem?_cons_succ] at c0 c1 c2 d0 d1 d2 d3
    have HB := Lib.hid hb
    clear r0 r1 hb hb1
    go_wp2
    refine bodyPost_ret (v := _) (by simp [results, Try.results16, go_sem, *]) rfl ⟨rfl, ?_⟩
    exact (((HB.out.setCell (p := ⟨w.heap.size + 1, 0, none⟩) (by simp) _).setCell (p := ⟨w.heap.size + 1, 1, none⟩) (by simp) _).setCell (p := ⟨w.heap.size + 1, 2, none⟩) (by simp) _).setCell (p := ⟨w.heap.size + 1, 3, none⟩) (by simp) _

set_option maxRecDepth 100000 in
set_option maxHeartbeats 1000000 in
theorem partOf_no (c n l k : Int) (w : World) (h : ¬ okPlan c n l) :
    Calls Try.prog 16 #[v3 c n l, .int .i64 k] w fun e w' => e = .returned (v4 0 0 0 0) ∧ Below w.heap.size w w' := by
  have HD := Lib.hid (decide_eq_false h)
  clear h
  have RT := Lib.hid (right8_any c n l)
  unfold v3 at RT ⊢
  unfold v4
  go_enter Try.func16, Try.ntmps16
  go_wp2_with fail
  refine (RT.out _).mono ?_
  rintro e w1 ⟨rfl, hb1⟩
  rw [HD.out]
  have r1 : Row w1 (w.heap.size + 1) 45 [.int .i64 0, .int .i64 0, .int .i64 0, .int .i64 0] := by simpa using (Row.new (w.alloc (.cells #[.int .i64 c, .int .i64 n, .int .i64 l] 23)) 45 #[.int .i64 0, .int .i64 0, .int .i64 0, .int .i64 0]).below hb1
  have d0 := r1.cell 0
  have d1 := r1.cell 1
  have d2 := r1.cell 2
  have d3 := r1.cell 3
  have f0 := r1.soft 0
  have f1 := r1.soft 1
  have f2 := r1.soft 2
  have f3 := r1.soft 3
  simp only [List.getElem?_cons_zero, List.getElem?_cons_succ] at d0 d1 d2 d3
  have HB := Lib.hid (below_on (below_on (below_al _ _) (below_al _ _)) hb1)
  clear r1 hb1
  go_wp2
  refine bodyPost_ret (v := _) (by simp [results, Try.results16, go_sem, *]) rfl ⟨rfl, ?_⟩
  exact (((HB.out.setCell (p := ⟨w.heap.size + 1, 0, none⟩) (by simp) _).setCell (p := ⟨w.heap.size + 1, 1, none⟩) (by simp) _).setCell (p := ⟨w.heap.size + 1, 2, none⟩) (by simp) _).setCell (p := ⟨w.heap.size + 1, 3, none⟩) (by simp) _

#print axioms partOf_ok
#print axioms partOf_no
end Go.Proofs.Ytbjmekedlmoolaa
