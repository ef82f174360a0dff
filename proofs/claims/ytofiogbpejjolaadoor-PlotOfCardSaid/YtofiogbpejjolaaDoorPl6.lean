/-
  Layer 13 (plot): the laws' alive; the walk of PlotNone.
  Conditions: those that each theorem states (the table of the fields lies as the chapter gives it).
-/
import Derived.Test.YtofiogbpejjolaaDoorPl3
namespace Go.Proofs.YtofiogbpejjolaaDoor
open Go.ChangeShapes Go.WideShapes Go.ChangeAt Go.RowKit

set_option maxRecDepth 100000 in
set_option maxHeartbeats 1000000 in
theorem alive13 (w : World) (hT : TabAt w) : Calls Tryd.prog 16 #[] w fun e w' => e = .returned (.bool true) ∧ Below w.heap.size w w' := by
  have OF := Lib.hid (of13_any 2 2 1 1 0)
  have AT := Lib.hid (fun W hW => at13_any 26 2 8 1 2 (by omega) (by omega) W hW)
  have SZ := Lib.hid (fun W => size13_any 2 W)
  have WD := Lib.hid (words13_any 2 2 1)
  rw [show ofB 2 2 1 1 0 = 26 from by decide, show ofR 2 2 1 1 0 = 2 from by decide, show decide (ofOk 2 2 1 1 0) = true from by decide] at OF
  rw [show atV13 26 2 8 1 2 = 46 from by decide, show decide (okWord 2 8 1 2) = true from by decide] at AT
  rw [show sizeP 2 = 26 from by decide] at SZ
  rw [show wordsP 2 2 1 = 52 from by decide] at WD
  have HR := Lib.hid (row13 w 23 #[.int .i64 2, .int .i64 2, .int .i64 1])
  have HT := Lib.hid (hT.al (.cells #[.int .i64 2, .int .i64 2, .int .i64 1] 23))
  have HA := Lib.hid (below_al w (.cells #[.int .i64 2, .int .i64 2, .int .i64 1] 23))
  unfold plV cfV at OF
  unfold plV at AT
  unfold cfV at WD
  clear hT
  go_enter Tryd.func16, Tryd.ntmps16
  go_wp2_with fail
  refine (OF.out _).mono ?_
  rintro e w1 ⟨rfl, hb1⟩
  have R1 := Lib.hid ((HR.out.below hb1).below (below_al w1 (.cells #[.int .i64 26, .int .i64 2] 25)))
  have T1 := Lib.hid ((HT.out.below hb1).al (.cells #[.int .i64 26, .int .i64 2] 25))
  have B1 := Lib.hid (below_on (below_on HA.out hb1) (below_al w1 (.cells #[.int .i64 26, .int .i64 2] 25)))
  have Q1 := Lib.hid (row13 w1 25 #[.int .i64 26, .int .i64 2])
  clear hb1 HR HT HA
  go_wp2_with fail
  refine (AT.out _ T1.out).mono ?_
  rintro e w2 ⟨rfl, hb2⟩
  have c0 := (R1.out.below hb2).cell 0
  have c1 := (R1.out.below hb2).cell 1
  have c2 := (R1.out.below hb2).cell 2
  have d0 := (Q1.out.below hb2).cell 0
  have d1 := (Q1.out.below hb2).cell 1
  simp only [List.getElem?_cons_zero, List.getElem?_cons_succ] at c0 c1 c2 d0 d1
  have QQ := Lib.hid (Q1.out.below hb2)
  have B2 := Lib.hid (below_on B1.out hb2)
  clear hb2 R1 T1 B1 Q1
  go_wp2_with fail
  refine (SZ.out _).mono ?_
  rintro e w' ⟨rfl, rfl⟩
  go_wp2_with fail
  refine (WD.out _).mono ?_
  rintro e w3 ⟨rfl, hb3⟩
  have e0 := (QQ.out.below hb3).cell 0
  have e1 := (QQ.out.below hb3).cell 1
  simp only [List.getElem?_cons_zero, List.getElem?_cons_succ] at e0 e1
  have B3 := Lib.hid (below_on B2.out hb3)
  clear hb3 c0 c1 c2 d0 d1 QQ B2
  go_wp2
  go_ret
  exact ⟨rfl, B3.out⟩

set_option maxRecDepth 100000 in
set_option maxHeartbeats 1000000 in
theorem plotNone_any (f s i : Int) (w : World) (hT : TabAt w) :
    Calls Tryd.prog 7 #[.int .i64 f, .int .i64 s, .int .i64 i] w fun e w' => e = .returned (.bool true) ∧ Below w.heap.size w w' := by
  have AT := Lib.hid (at13_any 0 0 f s i (by omega) (by omega) w hT)
  have HT := Lib.hid hT
  clear hT
  by_cases hf : f < 5
  · have t0 : decide (f < 5) = true := by simpa using hf
    obtain ⟨v, ev⟩ : ∃ v, atV13 0 0 f s i = v := ⟨_, rfl⟩
    obtain ⟨o, eo⟩ : ∃ v, decide (okWord 0 f s i) = v := ⟨_, rfl⟩
    rw [ev, eo] at AT
    unfold plV at AT
    clear ev eo hf
    go_enter Tryd.func7, Tryd.ntmps7
    go_wp2_with fail
    refine AT.out.mono ?_
    rintro e w1 ⟨rfl, hb1⟩
    have HT1 := Lib.hid (HT.out.below hb1)
    have HB := Lib.hid hb1
    clear hb1
    go_wp2_with fail
    refine (alive13 _ HT1.out).mono ?_
    rintro e w2 ⟨rfl, hb2⟩
    go_wp2
    go_ret
    exact ⟨rfl, below_on HB.out hb2⟩
  · have t0 : decide (f < 5) = false := by simpa using hf
    have hn : ¬ okWord 0 f s i := by
      unfold okWord
      omega
    rw [show atV13 0 0 f s i = 0 from if_neg hn, decide_eq_false hn] at AT
    unfold plV at AT
    clear hf hn
    go_enter Tryd.func7, Tryd.ntmps7
    go_wp2_with fail
    refine AT.out.mono ?_
    rintro e w1 ⟨rfl, hb1⟩
    have HT1 := Lib.hid (HT.out.below hb1)
    have HB := Lib.hid hb1
    clear hb1
    go_wp2_with fail
    refine (alive13 _ HT1.out).mono ?_
    rintro e w2 ⟨rfl, hb2⟩
    go_wp2
    go_ret
    exact ⟨rfl, below_on HB.out hb2⟩

#print axioms alive13
#print axioms plotNone_any
end Go.Proofs.YtofiogbpejjolaaDoor
