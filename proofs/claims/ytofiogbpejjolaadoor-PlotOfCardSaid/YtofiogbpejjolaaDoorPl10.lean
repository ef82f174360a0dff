/-
  Layer 13 (plot): the walk of PlotOf.
  Conditions: those that each theorem states (the table of the fields lies as the chapter gives it).
-/
import Derived.Test.YtofiogbpejjolaaDoorPl9
import Derived.Test.YtofiogbpejjolaaDoorRPl
import Derived.Deep.RegionHeld3
namespace Go.Proofs.YtofiogbpejjolaaDoor
open Go.ChangeShapes Go.WideShapes Go.ChangeAt Go.RowKit

theorem quiet_below {f : Nat} {args : Array Value} {v : Value} (h : ∀ W, Calls Tryd.prog f args W fun e w' => e = .returned v ∧ W = w') (W : World) : Calls Tryd.prog f args W fun e w' => e = .returned v ∧ Below W.heap.size W w' :=
  (h W).mono fun _ _ ⟨he, hw⟩ => ⟨he, hw ▸ Below.refl _ _⟩

theorem of_zero {c r b f t : Int} (h : decide (ofOk c r b f t) = false) : ofB c r b f t = 0 ∧ ofR c r b f t = 0 := ⟨if_neg (of_decide_eq_false h), if_neg (of_decide_eq_false h)⟩

set_option maxRecDepth 100000 in
set_option maxHeartbeats 4000000 in
theorem plotOf_any (c r b f t n : Int) (w : World) (hT : TabAt w) :
    Calls Tryd.prog 3 #[cfV c r b, .int .i64 f, .int .i64 t, .int .i64 n] w fun e w' => e = .returned (.bool true) ∧ Below w.heap.size w w' := by
  have OF := Lib.hid (of13_any c r b f t)
  have BS := Lib.hid (rbase13_any c r b f t)
  have RT := Lib.hid (right13_any c r b)
  have RR := Lib.hid (rright13_any c r b)
  have WD := Lib.hid (words13_any c r b)
  have RW := Lib.hid (rwords13_any c r b)
  have SZ := Lib.hid (quiet_below (size13_any n))
  have RS := Lib.hid (quiet_below (rsize13_any n))
  have hR : decide (ofOk c r b f t) = true → ofR c r b f t = r := fun h => if_pos (of_decide_eq_true h)
  have hZ := fun h => of_zero (c := c) (r := r) (b := b) (f := f) (t := t) h
  obtain ⟨V, eV⟩ : ∃ v, ofB c r b f t = v := ⟨_, rfl⟩
  obtain ⟨R, eR⟩ : ∃ v, ofR c r b f t = v := ⟨_, rfl⟩
  obtain ⟨o, eo⟩ : ∃ v, decide (ofOk c r b f t) = v := ⟨_, rfl⟩
  obtain ⟨k, ek⟩ : ∃ v, decide (okConf c r b) = v := ⟨_, rfl⟩
  obtain ⟨x, ex⟩ : ∃ v, wordsP c r b = v := ⟨_, rfl⟩
  obtain ⟨y, ey⟩ : ∃ v, sizeP n = v := ⟨_, rfl⟩
  rw [eV, eR, eo] at OF hZ
  rw [eV, eo] at BS
  rw [eR, eo] at hR
  rw [ek] at RT RR
  rw [ex] at WD RW
  rw [ey] at SZ RS
  unfold plV at OF
  unfold cfV at OF BS RT RR WD RW ⊢
  clear eV eR eo ek ex ey
  have H0 : Held13 w [(w.heap.size, 23, [.int .i64 c, .int .i64 r, .int .i64 b])] (w.alloc (.cells #[.int .i64 c, .int .i64 r, .int .i64 b] 23)) := by
    simpa using (Held13.start hT).al 23 [.int .i64 c, .int .i64 r, .int .i64 b]
  have HH0 := Lib.hid H0
  clear H0 hT
  go_enter Tryd.func3, Tryd.ntmps3
  go_wp2_with fail
  refine (OF.out _).mono ?_
  rintro e w1 ⟨rfl, hb1⟩
  have H1 := Lib.hid ((HH0.out.below hb1).al 25 [.int .i64 V, .int .i64 R])
  have c0 := ((HH0.out.below hb1).nth 0 rfl).cell 0
  have c1 := ((HH0.out.below hb1).nth 0 rfl).cell 1
  have c2 := ((HH0.out.below hb1).nth 0 rfl).cell 2
  have hlt := ((HH0.out.below hb1).nth 0 rfl).lt
  simp only [List.getElem?_cons_zero, List.getElem?_cons_succ] at c0 c1 c2 hlt
  clear hb1 HH0 OF
  go_wp2_with fail
  refine (BS.out _).mono ?_
  rintro e w2 ⟨rfl, hb2⟩
  have H2 := Lib.hid (H1.out.below hb2)
  clear c0 c1 c2 hlt hb2 H1 BS
  generalize w1.heap.size = A at *
  have c0 := (H2.out.nth 1 rfl).cell 0
  have c1 := (H2.out.nth 1 rfl).cell 1
  have c2 := (H2.out.nth 1 rfl).cell 2
  have hlt := (H2.out.nth 1 rfl).lt
  simp only [List.getElem?_cons_zero, List.getElem?_cons_succ] at c0 c1 c2 hlt
  have H3 := Lib.hid (H2.out.al 25 [.int .i64 V, .int .i64 R])
  generalize hP : w.heap.size = P at *
  cases o
  · obtain ⟨rfl, rfl⟩ := hZ rfl
    clear hR hZ
    go_wp2
    clear c0 c1 c2 hlt H2
    generalize w2.alloc (.cells #[.int .i64 0, .int .i64 0] 25) = w4 at *
    generalize w2.heap.size = B at *
    have KK := Lib.hid (fun (W : World) (hb : Below w4.heap.size w4 W) => (show W.cell? ⟨P, 0, none⟩ = some (.int .i64 c) ∧ W.cell? ⟨P, 1, none⟩ = some (.int .i64 r) ∧ W.cell? ⟨P, 2, none⟩ = some (.int .i64 b) ∧ W.cell? ⟨A, 0, none⟩ = some (.int .i64 0) ∧ W.cell? ⟨A, 1, none⟩ = some (.int .i64 0) ∧ W.cell? ⟨B, 0, none⟩ = some (.int .i64 0) ∧ W.cell? ⟨B, 1, none⟩ = some (.int .i64 0) ∧ Below w4.heap.size w4 W from
      ⟨((H3.out.below hb).nth 2 rfl).cell 0, ((H3.out.below hb).nth 2 rfl).cell 1, ((H3.out.below hb).nth 2 rfl).cell 2, ((H3.out.below hb).nth 1 rfl).cell 0, ((H3.out.below hb).nth 1 rfl).cell 1, ((H3.out.below hb).nth 0 rfl).cell 0, ((H3.out.below hb).nth 0 rfl).cell 1, hb⟩))
    have hb0 : Below w4.heap.size w4 w4 := Below.refl _ _
    have HT4 := Lib.hid H3.out.tab
    have HE := Lib.hid H3.out.old
    clear H3
    obtain ⟨k0, k1, k2, k3, k4, k5, k6, -⟩ := KK.out _ hb0
    cases k
    all_goals
      go_region_held3 (fun W => W.cell? ⟨P, 0, none⟩ = some (.int .i64 c) ∧ W.cell? ⟨P, 1, none⟩ = some (.int .i64 r) ∧ W.cell? ⟨P, 2, none⟩ = some (.int .i64 b) ∧ W.cell? ⟨A, 0, none⟩ = some (.int .i64 0) ∧ W.cell? ⟨A, 1, none⟩ = some (.int .i64 0) ∧ W.cell? ⟨B, 0, none⟩ = some (.int .i64 0) ∧ W.cell? ⟨B, 1, none⟩ = some (.int .i64 0) ∧ Below w4.heap.size w4 W)
        (first | exact KK.out _ hb11 | exact KK.out _ hb10 | exact KK.out _ hb9 | exact KK.out _ hb8 | exact KK.out _ hb7 | exact KK.out _ hb6 | exact KK.out _ hb5 | exact KK.out _ hb0.drew | exact KK.out _ hb0 | go_keep)
        (first
          | (go_at_call 10; refine (since13 RT.out w4 _ ?_).mono ?_; (go_split_ands; assumption); rintro e w5 ⟨rfl, hb5⟩)
          | (go_at_call 11; refine (since13 RR.out w4 _ ?_).mono ?_; (go_split_ands; assumption); rintro e w6 ⟨rfl, hb6⟩)
          | (go_at_call 12; refine (since13 SZ.out w4 _ ?_).mono ?_; (go_split_ands; assumption); rintro e w7 ⟨rfl, hb7⟩)
          | (go_at_call 13; refine (since13 RS.out w4 _ ?_).mono ?_; (go_split_ands; assumption); rintro e w8 ⟨rfl, hb8⟩)
          | (go_at_call 14; refine (since13 WD.out w4 _ ?_).mono ?_; (go_split_ands; assumption); rintro e w9 ⟨rfl, hb9⟩)
          | (go_at_call 15; refine (since13 RW.out w4 _ ?_).mono ?_; (go_split_ands; assumption); rintro e w10 ⟨rfl, hb10⟩)
          | (go_at_call 16; refine (since13T alive13 w4 _ HT4.out ?_).mono ?_; (go_split_ands; assumption); rintro e w11 ⟨rfl, hb11⟩))
      go_wp2
      go_ret
      subst hP
      exact ⟨rfl, below_on HE.out hb11⟩
  · obtain rfl := hR rfl
    clear hR hZ
    go_wp2
    clear c0 c1 c2 hlt H2
    generalize w2.alloc (.cells #[.int .i64 V, .int .i64 R] 25) = w4 at *
    generalize w2.heap.size = B at *
    have KK := Lib.hid (fun (W : World) (hb : Below w4.heap.size w4 W) => (show W.cell? ⟨P, 0, none⟩ = some (.int .i64 c) ∧ W.cell? ⟨P, 1, none⟩ = some (.int .i64 R) ∧ W.cell? ⟨P, 2, none⟩ = some (.int .i64 b) ∧ W.cell? ⟨A, 0, none⟩ = some (.int .i64 V) ∧ W.cell? ⟨A, 1, none⟩ = some (.int .i64 R) ∧ W.cell? ⟨B, 0, none⟩ = some (.int .i64 V) ∧ W.cell? ⟨B, 1, none⟩ = some (.int .i64 R) ∧ Below w4.heap.size w4 W from
      ⟨((H3.out.below hb).nth 2 rfl).cell 0, ((H3.out.below hb).nth 2 rfl).cell 1, ((H3.out.below hb).nth 2 rfl).cell 2, ((H3.out.below hb).nth 1 rfl).cell 0, ((H3.out.below hb).nth 1 rfl).cell 1, ((H3.out.below hb).nth 0 rfl).cell 0, ((H3.out.below hb).nth 0 rfl).cell 1, hb⟩))
    have hb0 : Below w4.heap.size w4 w4 := Below.refl _ _
    have HT4 := Lib.hid H3.out.tab
    have HE := Lib.hid H3.out.old
    clear H3
    obtain ⟨k0, k1, k2, k3, k4, k5, k6, -⟩ := KK.out _ hb0
    cases k
    all_goals
      go_region_held3 (fun W => W.cell? ⟨P, 0, none⟩ = some (.int .i64 c) ∧ W.cell? ⟨P, 1, none⟩ = some (.int .i64 R) ∧ W.cell? ⟨P, 2, none⟩ = some (.int .i64 b) ∧ W.cell? ⟨A, 0, none⟩ = some (.int .i64 V) ∧ W.cell? ⟨A, 1, none⟩ = some (.int .i64 R) ∧ W.cell? ⟨B, 0, none⟩ = some (.int .i64 V) ∧ W.cell? ⟨B, 1, none⟩ = some (.int .i64 R) ∧ Below w4.heap.size w4 W)
        (first | exact KK.out _ hb11 | exact KK.out _ hb10 | exact KK.out _ hb9 | exact KK.out _ hb8 | exact KK.out _ hb7 | exact KK.out _ hb6 | exact KK.out _ hb5 | exact KK.out _ hb0.drew | exact KK.out _ hb0 | go_keep)
        (first
          | (go_at_call 10; refine (since13 RT.out w4 _ ?_).mono ?_; (go_split_ands; assumption); rintro e w5 ⟨rfl, hb5⟩)
          | (go_at_call 11; refine (since13 RR.out w4 _ ?_).mono ?_; (go_split_ands; assumption); rintro e w6 ⟨rfl, hb6⟩)
          | (go_at_call 12; refine (since13 SZ.out w4 _ ?_).mono ?_; (go_split_ands; assumption); rintro e w7 ⟨rfl, hb7⟩)
          | (go_at_call 13; refine (since13 RS.out w4 _ ?_).mono ?_; (go_split_ands; assumption); rintro e w8 ⟨rfl, hb8⟩)
          | (go_at_call 14; refine (since13 WD.out w4 _ ?_).mono ?_; (go_split_ands; assumption); rintro e w9 ⟨rfl, hb9⟩)
          | (go_at_call 15; refine (since13 RW.out w4 _ ?_).mono ?_; (go_split_ands; assumption); rintro e w10 ⟨rfl, hb10⟩)
          | (go_at_call 16; refine (since13T alive13 w4 _ HT4.out ?_).mono ?_; (go_split_ands; assumption); rintro e w11 ⟨rfl, hb11⟩))
      go_wp2
      go_ret
      subst hP
      exact ⟨rfl, below_on HE.out hb11⟩

#print axioms plotOf_any
end Go.Proofs.YtofiogbpejjolaaDoor
