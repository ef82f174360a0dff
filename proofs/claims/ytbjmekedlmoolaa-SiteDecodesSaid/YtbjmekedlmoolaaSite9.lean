/-
  Layer 8 (site): the example (alive), and the walks of the laws SiteDecodes, SiteEncodes, SiteBack.
  Conditions: none.
-/
import Derived.Test.YtbjmekedlmoolaaSite7
namespace Go.Proofs.Ytbjmekedlmoolaa
open Go.ChangeShapes Go.WideShapes Go.ChangeAt Go.RowKit

theorem dec_is {c n l a : Int} (w : World) (K I R : Int) (B : Bool) (ha : a ≤ 9223372036854775807) (h : Dec c n l a K I R B) :
    Calls Try.prog 6 #[v3 c n l, .int .i64 a] w fun e w' => e = .returned (.tuple #[v3 K I R, .bool B]) ∧ Below w.heap.size w w' := by
  refine (decode8_any c n l a w ha).mono ?_
  rintro e w' ⟨⟨K', i', r', b', rfl, h'⟩, hb⟩
  obtain ⟨rfl, rfl, rfl, rfl⟩ := h'.eq h
  exact ⟨rfl, hb⟩

theorem ok_ex : okPlan 2 8 1 := by unfold okPlan; omega
theorem ex1 (w : World) : Calls Try.prog 6 #[v3 2 8 1, .int .i64 7] w fun e w' => e = .returned (.tuple #[v3 1 0 7, .bool true]) ∧ Below w.heap.size w w' :=
  dec_is w 1 0 7 true (by omega) (.inl ⟨rfl, ok_ex, by unfold IsSpot; omega⟩)

theorem ex2 (w : World) : Calls Try.prog 6 #[v3 2 8 1, .int .i64 8] w fun e w' => e = .returned (.tuple #[v3 0 0 0, .bool false]) ∧ Below w.heap.size w w' :=
  dec_is w 0 0 0 false (by omega) (.inr ⟨rfl, rfl, rfl, rfl, fun _ k i r h => by unfold IsSpot at h; omega⟩)

theorem ex3 (w : World) : Calls Try.prog 6 #[v3 2 8 1, .int .i64 65553] w fun e w' => e = .returned (.tuple #[v3 2 1 1, .bool true]) ∧ Below w.heap.size w w' :=
  dec_is w 2 1 1 true (by omega) (.inl ⟨rfl, ok_ex, by unfold IsSpot; omega⟩)

theorem ex4 (w : World) : Calls Try.prog 6 #[v3 2 8 1, .int .i64 65792] w fun e w' => e = .returned (.tuple #[v3 3 0 0, .bool true]) ∧ Below w.heap.size w w' :=
  dec_is w 3 0 0 true (by omega) (.inl ⟨rfl, ok_ex, by unfold IsSpot; omega⟩)

theorem row3 (w : World) (t : TypeId) (a b c : Int) : Row (w.alloc (.cells #[.int .i64 a, .int .i64 b, .int .i64 c] t)) w.heap.size t [.int .i64 a, .int .i64 b, .int .i64 c] := Row.new w t #[.int .i64 a, .int .i64 b, .int .i64 c]

set_option maxRecDepth 100000 in
set_option maxHeartbeats 1000000 in
theorem alive8 (w : World) :
    Calls Try.prog 13 #[] w fun e w' => e = .returned (.bool true) ∧ Below w.heap.size w w' := by
  have E1 := Lib.hid ex1
  have E2 := Lib.hid ex2
  have E3 := Lib.hid ex3
  have E4 := Lib.hid ex4
  have HR := Lib.hid (row3 w 23 2 8 1)
  unfold v3 at E1 E2 E3 E4
  go_enter Try.func13, Try.ntmps13
  go_wp2_with fail
  refine (E1.out _).mono ?_
  rintro e w1 ⟨rfl, hb1⟩
  have p1 := HR.out.below hb1
  have hB1 := below_on (below_al _ _) hb1
  have p0 := p1.cell 0
  have p1' := p1.cell 1
  have p2 := p1.cell 2
  simp only [List.getElem?_cons_zero, List.getElem?_cons_succ] at p0 p1' p2
  have hl := p1.lt
  have P1 := Lib.hid p1
  have B1 := Lib.hid hB1
  clear p1 hB1 hb1
  go_wp2_with fail
  refine (E2.out _).mono ?_
  rintro e w2 ⟨rfl, hb2⟩
  have P2 := Lib.hid ((P1.out.below (below_al _ _)).below hb2)
  have Q2 := Lib.hid ((row3 w1 25 1 0 7).below hb2)
  have B2 := Lib.hid (below_on (below_on B1.out (below_al _ _)) hb2)
  clear hb2 p0 p1' p2
  have p0 := P2.out.cell 0
  have p1' := P2.out.cell 1
  have p2 := P2.out.cell 2
  have hl2 := P2.out.lt
  simp only [List.getElem?_cons_zero, List.getElem?_cons_succ] at p0 p1' p2
  go_wp2_with fail
  refine (E3.out _).mono ?_
  rintro e w3 ⟨rfl, hb3⟩
  have P3 := Lib.hid ((P2.out.below (below_al _ _)).below hb3)
  have Q3 := Lib.hid ((Q2.out.below (below_al _ _)).below hb3)
  have B3 := Lib.hid (below_on (below_on B2.out (below_al _ _)) hb3)
  clear hb3 p0 p1' p2
  have p0 := P3.out.cell 0
  have p1' := P3.out.cell 1
  have p2 := P3.out.cell 2
  have hl3 := P3.out.lt
  simp only [List.getElem?_cons_zero, List.getElem?_cons_succ] at p0 p1' p2
  go_wp2_with fail
  refine (E4.out _).mono ?_
  rintro e w4 ⟨rfl, hb4⟩
  have Q4 := Lib.hid ((Q3.out.below (below_al _ _)).below hb4)
  have R4 := Lib.hid ((row3 w3 25 2 1 1).below hb4)
  have B4 := Lib.hid (below_on (below_on B3.out (below_al _ _)) hb4)
  have q0 := Q4.out.cell 0
  have q1 := Q4.out.cell 1
  have q2 := Q4.out.cell 2
  have r0 := R4.out.cell 0
  have r1 := R4.out.cell 1
  have r2 := R4.out.cell 2
  simp only [List.getElem?_cons_zero, List.getElem?_cons_succ] at q0 q1 q2 r0 r1 r2
  have hl4 := R4.out.lt
  have hl5 := Q4.out.lt
  clear hb4 p0 p1' p2
  go_wp2
  go_ret
  exact ⟨rfl, below_on B4.out (below_al _ _)⟩

#print axioms alive8
end Go.Proofs.Ytbjmekedlmoolaa
