/-
  Layer 13 (plot): the walk of PlotWhere.
  Conditions: those that each theorem states (the table of the fields lies as the chapter gives it).
-/
import Derived.Test.YtofiogbpejjolaaDoorPl6
import Derived.Test.YtofiogbpejjolaaDoorRPl3
namespace Go.Proofs.YtofiogbpejjolaaDoor
open Go.ChangeShapes Go.WideShapes Go.ChangeAt Go.RowKit

set_option maxRecDepth 100000 in
set_option maxHeartbeats 2000000 in
theorem plotWhere_any (c r b a : Int) (w : World) (hT : TabAt w) :
    Calls Tryd.prog 5 #[cfV c r b, .int .i64 a] w fun e w' => e = .returned (.bool true) ∧ Below w.heap.size w w' := by
  have WH := Lib.hid (fun W hW => where13_any c r b a W hW)
  have RW := Lib.hid (fun W => rwhere13_any c r b a W)
  have HN := Lib.hid (fun W (hb : Below (w.alloc (.cells #[.int .i64 c, .int .i64 r, .int .i64 b] 23)).heap.size (w.alloc (.cells #[.int .i64 c, .int .i64 r, .int .i64 b] 23)) W) =>
    (show Row W w.heap.size 23 [.int .i64 c, .int .i64 r, .int .i64 b] ∧ TabAt W ∧ Below w.heap.size w W from
      ⟨(row13 w 23 #[.int .i64 c, .int .i64 r, .int .i64 b]).below hb, (hT.al _).below hb, below_on (below_al _ _) hb⟩))
  unfold cfV at WH RW ⊢
  unfold placeV at WH RW
  have HT0 := Lib.hid (HN.out _ (Below.refl _ _))
  clear hT
  by_cases h : 16 < r
  · have t0 : decide (16 < r) = true := by simpa using h
    clear h
    go_enter Tryd.func5, Tryd.ntmps5
    go_wp2_with fail
    refine (alive13 _ HT0.out.2.1).mono ?_
    rintro e w1 ⟨rfl, hb1⟩
    have HF := Lib.hid (below_on HT0.out.2.2 hb1)
    clear hb1
    go_wp2
    go_ret
    exact ⟨rfl, HF.out⟩
  · have t0 : decide (16 < r) = false := by simpa using h
    clear h
    go_enter Tryd.func5, Tryd.ntmps5
    go_wp2_with fail
    refine (WH.out _ HT0.out.2.1).mono ?_
    rintro e w1 ⟨⟨F, T, K, S, I, o, rfl, hw⟩, hb1⟩
    have HW := Lib.hid hw
    obtain ⟨r1, q1, b1⟩ := HN.out _ hb1
    have c0 := r1.cell 0
    have c1 := r1.cell 1
    have c2 := r1.cell 2
    simp only [List.getElem?_cons_zero, List.getElem?_cons_succ] at c0 c1 c2
    have hlt := r1.lt
    have P1 := Lib.hid (row13 w1 40 #[.int .i64 F, .int .i64 T, .int .i64 K, .int .i64 S, .int .i64 I])
    have B1 := Lib.hid (below_on b1 (below_al w1 (.cells #[.int .i64 F, .int .i64 T, .int .i64 K, .int .i64 S, .int .i64 I] 40)))
    have T1 := Lib.hid (q1.al (.cells #[.int .i64 F, .int .i64 T, .int .i64 K, .int .i64 S, .int .i64 I] 40))
    clear hw hb1 r1 q1 b1 WH HN HT0
    go_wp2_with fail
    refine (RW.out _).mono ?_
    rintro e w2 ⟨⟨F', T', K', S', I', o', rfl, hw'⟩, hb2⟩
    obtain ⟨rfl, rfl, rfl, rfl, rfl, rfl⟩ := hw'.eq HW.out
    have p1 := (P1.out.below hb2).below (below_al w2 (.cells #[.int .i64 F', .int .i64 T', .int .i64 K', .int .i64 S', .int .i64 I'] 43))
    have p2 := row13 w2 43 #[.int .i64 F', .int .i64 T', .int .i64 K', .int .i64 S', .int .i64 I']
    have T2 := Lib.hid ((T1.out.below hb2).al (.cells #[.int .i64 F', .int .i64 T', .int .i64 K', .int .i64 S', .int .i64 I'] 43))
    have B2 := Lib.hid (below_on (below_on B1.out hb2) (below_al w2 (.cells #[.int .i64 F', .int .i64 T', .int .i64 K', .int .i64 S', .int .i64 I'] 43)))
    have d0 := (P1.out.below hb2).cell 0
    have d1 := (P1.out.below hb2).cell 1
    have d2 := (P1.out.below hb2).cell 2
    have d3 := (P1.out.below hb2).cell 3
    have d4 := (P1.out.below hb2).cell 4
    simp only [List.getElem?_cons_zero, List.getElem?_cons_succ] at d0 d1 d2 d3 d4
    have hlt2 := (P1.out.below hb2).lt
    clear hw' hb2 HW P1 T1 B1 RW p1 p2 c0 c1 c2 hlt
    cases o'
    all_goals
      go_wp2_with fail
      refine (alive13 _ T2.out).mono ?_
      rintro e w3 ⟨rfl, hb3⟩
      have HF := Lib.hid (below_on B2.out hb3)
      clear hb3 d0 d1 d2 d3 d4 hlt2
      go_wp2
      go_ret
      exact ⟨rfl, HF.out⟩

#print axioms plotWhere_any
end Go.Proofs.YtofiogbpejjolaaDoor
