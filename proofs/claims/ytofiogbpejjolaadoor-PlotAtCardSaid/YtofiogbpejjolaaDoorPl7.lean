/-
  Layer 13 (plot): the walk of PlotAt.
  Conditions: those that each theorem states (the table of the fields lies as the chapter gives it).
-/
import Derived.Test.YtofiogbpejjolaaDoorPl6
import Derived.Test.YtofiogbpejjolaaDoorRPl2
namespace Go.Proofs.YtofiogbpejjolaaDoor
open Go.ChangeShapes Go.WideShapes Go.ChangeAt Go.RowKit

theorem of_bd (c r b f t : Int) : 0 ≤ ofB c r b f t ∧ ofB c r b f t ≤ 100000 ∧ 0 ≤ ofR c r b f t ∧ ofR c r b f t ≤ 64 := by
  unfold ofB ofR
  by_cases h : ofOk c r b f t
  · rw [if_pos h, if_pos h]
    have hc : 2 ≤ c ∧ c ≤ 8 := ⟨h.1.1, h.1.2.1⟩
    have h1 := rank_bd hc h.2
    have h2 := pairs_bd hc
    have h3 := h.1.2.2.1.bd
    have hq : 0 ≤ rankP c f t * (4 + 11 * r) ∧ rankP c f t * (4 + 11 * r) ≤ 40000 := ⟨Int.mul_nonneg h1.1 (by omega), Int.le_trans (Int.mul_le_mul (show rankP c f t ≤ 56 by omega) (show 4 + 11 * r ≤ 708 by omega) (by omega) (by omega)) (by omega)⟩
    omega
  · rw [if_neg h, if_neg h]
    omega

/-- What PlotAt holds: the configuration, the three numbers, the channel, the table. -/
structure PaT (w : World) (P A : Nat) (c r b x0 x1 x2 V R : Int) (W : World) : Prop where
  conf : Row W P 23 [.int .i64 c, .int .i64 r, .int .i64 b]
  arr : Row W (P + 1) 35 [.int .i64 x0, .int .i64 x1, .int .i64 x2]
  plot : Row W A 25 [.int .i64 V, .int .i64 R]
  tab : TabAt W
  old : Below w.heap.size w W

theorem PaT.below {w W W' : World} {P A : Nat} {c r b x0 x1 x2 V R : Int} (h : PaT w P A c r b x0 x1 x2 V R W) (hb : Below W.heap.size W W') : PaT w P A c r b x0 x1 x2 V R W' :=
  ⟨h.conf.below hb, h.arr.below hb, h.plot.below hb, h.tab.below hb, below_on h.old hb⟩

theorem PaT.cells {w W : World} {P A : Nat} {c r b x0 x1 x2 V R : Int} (h : PaT w P A c r b x0 x1 x2 V R W) :
    W.cell? ⟨P, 0, none⟩ = some (.int .i64 c) ∧ W.cell? ⟨P, 1, none⟩ = some (.int .i64 r) ∧ W.cell? ⟨P, 2, none⟩ = some (.int .i64 b) ∧ W.cell? ⟨P + 1, 0, none⟩ = some (.int .i64 x0) ∧ W.cell? ⟨P + 1, 1, none⟩ = some (.int .i64 x1) ∧ W.cell? ⟨P + 1, 2, none⟩ = some (.int .i64 x2) ∧ W.cell? ⟨A, 0, none⟩ = some (.int .i64 V) ∧ W.cell? ⟨A, 1, none⟩ = some (.int .i64 R) :=
  ⟨h.conf.cell 0, h.conf.cell 1, h.conf.cell 2, h.arr.cell 0, h.arr.cell 1, h.arr.cell 2, h.plot.cell 0, h.plot.cell 1⟩

set_option maxRecDepth 100000 in
set_option maxHeartbeats 2000000 in
theorem plotAt_any (c r b f t x0 x1 x2 : Int) (w : World) (hT : TabAt w) :
    Calls Tryd.prog 4 #[cfV c r b, .int .i64 f, .int .i64 t, .agg #[.int .i64 x0, .int .i64 x1, .int .i64 x2]] w fun e w' => e = .returned (.bool true) ∧ Below w.heap.size w w' := by
  have OF := Lib.hid (of13_any c r b f t)
  have BS := Lib.hid (rbase13_any c r b f t)
  have hbd := of_bd c r b f t
  have AT := Lib.hid (fun W hW => at13_any (ofB c r b f t) (ofR c r b f t) x0 x1 x2 ⟨hbd.1, hbd.2.1⟩ hbd.2.2 W hW)
  have RA := Lib.hid (fun W => rat13_any (ofB c r b f t) (ofR c r b f t) x0 x1 x2 ⟨hbd.1, hbd.2.1⟩ hbd.2.2 W)
  have hR : decide (ofOk c r b f t) = true → ofR c r b f t = r := fun h => if_pos (of_decide_eq_true h)
  obtain ⟨V, eV⟩ : ∃ v, ofB c r b f t = v := ⟨_, rfl⟩
  obtain ⟨R, eR⟩ : ∃ v, ofR c r b f t = v := ⟨_, rfl⟩
  obtain ⟨o, eo⟩ : ∃ v, decide (ofOk c r b f t) = v := ⟨_, rfl⟩
  rw [eV, eR] at AT RA
  rw [eV, eR, eo] at OF
  rw [eV, eo] at BS
  rw [eR, eo] at hR
  clear eV eR eo hbd
  obtain ⟨v, ev⟩ : ∃ v, atV13 V R x0 x1 x2 = v := ⟨_, rfl⟩
  obtain ⟨k, ek⟩ : ∃ v, decide (okWord R x0 x1 x2) = v := ⟨_, rfl⟩
  rw [ev, ek] at AT RA
  clear ev ek
  have HN := Lib.hid (fun W W' (hb : Below ((w.alloc (.cells #[.int .i64 c, .int .i64 r, .int .i64 b] 23)).alloc (.cells #[.int .i64 x0, .int .i64 x1, .int .i64 x2] 35)).heap.size ((w.alloc (.cells #[.int .i64 c, .int .i64 r, .int .i64 b] 23)).alloc (.cells #[.int .i64 x0, .int .i64 x1, .int .i64 x2] 35)) W) (hb' : Below (W.alloc (.cells #[.int .i64 V, .int .i64 R] 25)).heap.size (W.alloc (.cells #[.int .i64 V, .int .i64 R] 25)) W') =>
    (show PaT w w.heap.size W.heap.size c r b x0 x1 x2 V R W' from
      ⟨((((row13 w 23 #[.int .i64 c, .int .i64 r, .int .i64 b]).below (below_al _ _)).below hb).below (below_al _ _)).below hb', (((show Row _ (w.heap.size + 1) _ _ from by simpa using row13 (w.alloc (.cells #[.int .i64 c, .int .i64 r, .int .i64 b] 23)) 35 #[.int .i64 x0, .int .i64 x1, .int .i64 x2]).below hb).below (below_al _ _)).below hb',
        (row13 W 25 #[.int .i64 V, .int .i64 R]).below hb', (((((hT.al _).al _).below hb)).al _).below hb', below_on (below_on (below_on (below_on (below_al _ _) (below_al _ _)) hb) (below_al _ _)) hb'⟩))
  unfold plV at OF AT
  unfold cfV at OF BS ⊢
  clear hT
  have HC := Lib.hid (fun W (hb : Below ((w.alloc (.cells #[.int .i64 c, .int .i64 r, .int .i64 b] 23)).alloc (.cells #[.int .i64 x0, .int .i64 x1, .int .i64 x2] 35)).heap.size ((w.alloc (.cells #[.int .i64 c, .int .i64 r, .int .i64 b] 23)).alloc (.cells #[.int .i64 x0, .int .i64 x1, .int .i64 x2] 35)) W) => (HN.out W _ hb (Below.refl _ _)).cells)
  go_enter Tryd.func4, Tryd.ntmps4
  go_wp2_with fail
  refine (OF.out _).mono ?_
  rintro e w1 ⟨rfl, hb1⟩
  obtain ⟨c0, c1, c2, -, -, -, -, -⟩ := HC.out _ hb1
  have HB1 := Lib.hid hb1
  clear hb1 HC
  go_wp2_with fail
  refine (BS.out _).mono ?_
  rintro e w2 ⟨rfl, hb2⟩
  have H2 := Lib.hid (HN.out _ _ HB1.out hb2)
  clear hb2 HB1 HN c0 c1 c2
  generalize w1.heap.size = A at *
  obtain ⟨c0, c1, c2, c3, c4, c5, c6, c7⟩ := H2.out.cells
  cases o
  · go_wp2_with fail
    refine (alive13 _ H2.out.tab).mono ?_
    rintro e w3 ⟨rfl, hb3⟩
    have HF := Lib.hid (below_on H2.out.old hb3)
    clear c0 c1 c2 c3 c4 c5 c6 c7 hb3
    go_wp2
    go_ret
    exact ⟨rfl, HF.out⟩
  · obtain rfl := hR rfl
    go_wp2_with fail
    refine (AT.out _ H2.out.tab).mono ?_
    rintro e w3 ⟨rfl, hb3⟩
    have H3 := Lib.hid (H2.out.below hb3)
    clear c0 c1 c2 c3 c4 c5 c6 c7 hb3 H2
    obtain ⟨c0, c1, c2, c3, c4, c5, c6, c7⟩ := H3.out.cells
    go_wp2_with fail
    refine (RA.out _).mono ?_
    rintro e w' ⟨rfl, rfl⟩
    cases k
    all_goals
      go_wp2_with fail
      refine (alive13 _ H3.out.tab).mono ?_
      rintro e w4 ⟨rfl, hb4⟩
      have HF := Lib.hid (below_on H3.out.old hb4)
      clear c0 c1 c2 c3 c4 c5 c6 c7 hb4
      go_wp2
      go_ret
      exact ⟨rfl, HF.out⟩

#print axioms plotAt_any
end Go.Proofs.YtofiogbpejjolaaDoor
