/-
  MboxSame at the inputs that its guard leaves out; at any input.
  Conditions: none.
-/
import Derived.Test.YtfboikefjealfaaMb21
namespace Go.Proofs.Ytfboikefjealfaa
open Go.ChangeShapes Go.WideShapes Go.ChangeAt Go.RowKit

theorem new_any9 (c : Int) (w0 W : World) (hb : Below w0.heap.size w0 W) : Calls Try.prog 8 #[.int .i64 c] W fun e w' => ∃ v, e = .returned v ∧ Below w0.heap.size w0 w' := by
  by_cases h : c < 1 ∨ 8 < c
  · exact (new9_no c W h).mono fun _ _ ⟨he, hw⟩ => ⟨_, he, hw ▸ hb⟩
  · obtain ⟨n, rfl⟩ := Int.eq_ofNat_of_zero_le (show 0 ≤ c by omega)
    exact (new9_yes n W (by omega) (by omega)).mono fun _ _ ⟨_, he, _, _, hb'⟩ => ⟨_, he, below_on hb hb'⟩
theorem new_nil9 (c : Int) (h : c < 1 ∨ 8 < c) (w0 W : World) (hb : Below w0.heap.size w0 W) : Calls Try.prog 8 #[.int .i64 c] W fun e w' => e = .returned (.pointer none) ∧ Below w0.heap.size w0 w' :=
  (new9_no c W h).mono fun _ _ ⟨he, hw⟩ => ⟨he, hw ▸ hb⟩
theorem new_ptr9 (c : Int) (h : ¬ (c < 1 ∨ 8 < c)) (w0 W : World) (hb : Below w0.heap.size w0 W) : Calls Try.prog 8 #[.int .i64 c] W fun e w' => ∃ g, e = .returned (.pointer (some ⟨g, 0, none⟩)) ∧ Below w0.heap.size w0 w' := by
  obtain ⟨n, rfl⟩ := Int.eq_ofNat_of_zero_le (show 0 ≤ c by omega)
  exact (new9_yes n W (by omega) (by omega)).mono fun _ _ ⟨L, he, _, _, hb'⟩ => ⟨L.g, he, below_on hb hb'⟩

set_option maxRecDepth 100000 in
set_option maxHeartbeats 2000000 in
theorem mboxSame_nilA (c0 c1 : Int) (A0 A1 : Option Addr) (m0 m1 d0 d1 : Nat) (K c t x : Int) (w : World) (h : c0 < 1 ∨ 8 < c0) :
    Calls Try.prog 4 #[.agg #[.int .i64 c0, .int .i64 c1], .agg #[.slice A0 m0 d0, .slice A1 m1 d1], opV9 K c t x] w fun e w' => e = .returned (.bool true) ∧ Below w.heap.size w w' := by
  have A0' : Arg9 w (((w.alloc (.cells #[.int .i64 c0, .int .i64 c1] 47)).alloc (.cells #[.slice A0 m0 d0, .slice A1 m1 d1] 48)).alloc (.cells #[.int .i64 K, .int .i64 c, .int .i64 t, .int .i64 x] 30)) c0 c1 (.slice A0 m0 d0) (.slice A1 m1 d1) K c t x := by
    have h1 := Row.new (w.alloc (.cells #[.int .i64 c0, .int .i64 c1] 47)) 48 #[.slice A0 m0 d0, .slice A1 m1 d1]
    have h2 := Row.new ((w.alloc (.cells #[.int .i64 c0, .int .i64 c1] 47)).alloc (.cells #[.slice A0 m0 d0, .slice A1 m1 d1] 48)) 30 #[.int .i64 K, .int .i64 c, .int .i64 t, .int .i64 x]
    simp only [size_al] at h1 h2
    exact ⟨below_on (below_on (below_al _ _) (below_al _ _)) (below_al _ _), ((Row.new w 47 #[.int .i64 c0, .int .i64 c1]).below (below_al _ _)).below (below_al _ _), h1.below (below_al _ _), h2⟩
  have ARG := Lib.hid A0'
  have al := fun W => Lib.hid (alive9 W)
  have NA := Lib.hid (fun w0 => new_nil9 c0 h w0)
  have NB := Lib.hid (fun w0 => new_any9 c1 w0)
  clear h
  clear A0'
  unfold opV9
  go_enter Try.func4, Try.ntmps4
  go_wp2_with fail
  have arg := ARG.out
  generalize ((w.alloc (.cells #[.int .i64 c0, .int .i64 c1] 47)).alloc (.cells #[.slice A0 m0 d0, .slice A1 m1 d1] 48)).alloc (.cells #[.int .i64 K, .int .i64 c, .int .i64 t, .int .i64 x] 30) = w0 at arg ⊢
  clear ARG
  have hb0 : Below w0.heap.size w0 w0 := Below.refl _ _
  have ARG := Lib.hid arg
  have KK := Lib.hid (fun (W : World) (hb : Below w0.heap.size w0 W) => (show W.cell? ⟨w.heap.size, 0, none⟩ = some (.int .i64 c0) ∧ W.cell? ⟨w.heap.size, 1, none⟩ = some (.int .i64 c1) ∧ Below w0.heap.size w0 W from ⟨(arg.below hb).a.cell 0, (arg.below hb).a.cell 1, hb⟩))
  have HNA := Lib.hid (NA.out w0)
  have HNB := Lib.hid (NB.out w0)
  clear arg
  go_region_held3 (fun W => W.cell? ⟨w.heap.size, 0, none⟩ = some (.int .i64 c0) ∧ W.cell? ⟨w.heap.size, 1, none⟩ = some (.int .i64 c1) ∧ Below w0.heap.size w0 W)
    (first | exact KK.out _ hb6 | exact KK.out _ hb5 | exact KK.out _ hb0.drew | exact KK.out _ hb0 | go_keep)
    (first
      | (go_at_call 8; (with_reducible refine (HNA.out _ ?_).mono ?_); (go_split_ands; assumption); rintro e w5 ⟨rfl, hb5⟩)
      | (go_at_call 8; (with_reducible refine (HNB.out _ ?_).mono ?_); (go_split_ands; assumption); rintro e w6 ⟨v6, rfl, hb6⟩))
  all_goals
    have x0 := (ARG.out.below hb6).a.cell 0
    have x1 := (ARG.out.below hb6).a.cell 1
    have x2 := (ARG.out.below hb6).b.cell 0
    have x3 := (ARG.out.below hb6).b.cell 1
    simp only [List.getElem?_cons_zero, List.getElem?_cons_succ] at x0 x1 x2 x3
    go_wp2_with (first
      | (go_at_call 7; refine (al _).out.mono ?_; rintro e w7 ⟨rfl, hb7⟩))
    go_ret
    exact ⟨rfl, below_on ARG.out.bel (below_on hb6 hb7)⟩

set_option maxRecDepth 100000 in
set_option maxHeartbeats 2000000 in
theorem mboxSame_nilB (c0 c1 : Int) (A0 A1 : Option Addr) (m0 m1 d0 d1 : Nat) (K c t x : Int) (w : World) (h0 : ¬ (c0 < 1 ∨ 8 < c0)) (h : c1 < 1 ∨ 8 < c1) :
    Calls Try.prog 4 #[.agg #[.int .i64 c0, .int .i64 c1], .agg #[.slice A0 m0 d0, .slice A1 m1 d1], opV9 K c t x] w fun e w' => e = .returned (.bool true) ∧ Below w.heap.size w w' := by
  have A0' : Arg9 w (((w.alloc (.cells #[.int .i64 c0, .int .i64 c1] 47)).alloc (.cells #[.slice A0 m0 d0, .slice A1 m1 d1] 48)).alloc (.cells #[.int .i64 K, .int .i64 c, .int .i64 t, .int .i64 x] 30)) c0 c1 (.slice A0 m0 d0) (.slice A1 m1 d1) K c t x := by
    have h1 := Row.new (w.alloc (.cells #[.int .i64 c0, .int .i64 c1] 47)) 48 #[.slice A0 m0 d0, .slice A1 m1 d1]
    have h2 := Row.new ((w.alloc (.cells #[.int .i64 c0, .int .i64 c1] 47)).alloc (.cells #[.slice A0 m0 d0, .slice A1 m1 d1] 48)) 30 #[.int .i64 K, .int .i64 c, .int .i64 t, .int .i64 x]
    simp only [size_al] at h1 h2
    exact ⟨below_on (below_on (below_al _ _) (below_al _ _)) (below_al _ _), ((Row.new w 47 #[.int .i64 c0, .int .i64 c1]).below (below_al _ _)).below (below_al _ _), h1.below (below_al _ _), h2⟩
  have ARG := Lib.hid A0'
  have al := fun W => Lib.hid (alive9 W)
  have NA := Lib.hid (fun w0 => new_ptr9 c0 h0 w0)
  have NB := Lib.hid (fun w0 => new_nil9 c1 h w0)
  clear h h0
  clear A0'
  unfold opV9
  go_enter Try.func4, Try.ntmps4
  go_wp2_with fail
  have arg := ARG.out
  generalize ((w.alloc (.cells #[.int .i64 c0, .int .i64 c1] 47)).alloc (.cells #[.slice A0 m0 d0, .slice A1 m1 d1] 48)).alloc (.cells #[.int .i64 K, .int .i64 c, .int .i64 t, .int .i64 x] 30) = w0 at arg ⊢
  clear ARG
  have hb0 : Below w0.heap.size w0 w0 := Below.refl _ _
  have ARG := Lib.hid arg
  have KK := Lib.hid (fun (W : World) (hb : Below w0.heap.size w0 W) => (show W.cell? ⟨w.heap.size, 0, none⟩ = some (.int .i64 c0) ∧ W.cell? ⟨w.heap.size, 1, none⟩ = some (.int .i64 c1) ∧ Below w0.heap.size w0 W from ⟨(arg.below hb).a.cell 0, (arg.below hb).a.cell 1, hb⟩))
  have HNA := Lib.hid (NA.out w0)
  have HNB := Lib.hid (NB.out w0)
  clear arg
  go_region_held3 (fun W => W.cell? ⟨w.heap.size, 0, none⟩ = some (.int .i64 c0) ∧ W.cell? ⟨w.heap.size, 1, none⟩ = some (.int .i64 c1) ∧ Below w0.heap.size w0 W)
    (first | exact KK.out _ hb6 | exact KK.out _ hb5 | exact KK.out _ hb0.drew | exact KK.out _ hb0 | go_keep)
    (first
      | (go_at_call 8; (with_reducible refine (HNA.out _ ?_).mono ?_); (go_split_ands; assumption); rintro e w5 ⟨gA, rfl, hb5⟩)
      | (go_at_call 8; (with_reducible refine (HNB.out _ ?_).mono ?_); (go_split_ands; assumption); rintro e w6 ⟨rfl, hb6⟩))
  all_goals
    have x0 := (ARG.out.below hb6).a.cell 0
    have x1 := (ARG.out.below hb6).a.cell 1
    have x2 := (ARG.out.below hb6).b.cell 0
    have x3 := (ARG.out.below hb6).b.cell 1
    simp only [List.getElem?_cons_zero, List.getElem?_cons_succ] at x0 x1 x2 x3
    go_wp2_with (first
      | (go_at_call 7; refine (al _).out.mono ?_; rintro e w7 ⟨rfl, hb7⟩))
    go_ret
    exact ⟨rfl, below_on ARG.out.bel (below_on hb6 hb7)⟩

set_option maxRecDepth 100000 in
set_option maxHeartbeats 2000000 in
theorem mboxSame_lenA (c0 c1 : Int) (A0 A1 : Option Addr) (m0 m1 d0 d1 : Nat) (K c t x : Int) (w : World) (h0 : ¬ (c0 < 1 ∨ 8 < c0)) (h1 : ¬ (c1 < 1 ∨ 8 < c1)) (h : 60 < m0) :
    Calls Try.prog 4 #[.agg #[.int .i64 c0, .int .i64 c1], .agg #[.slice A0 m0 d0, .slice A1 m1 d1], opV9 K c t x] w fun e w' => e = .returned (.bool true) ∧ Below w.heap.size w w' := by
  have A0' : Arg9 w (((w.alloc (.cells #[.int .i64 c0, .int .i64 c1] 47)).alloc (.cells #[.slice A0 m0 d0, .slice A1 m1 d1] 48)).alloc (.cells #[.int .i64 K, .int .i64 c, .int .i64 t, .int .i64 x] 30)) c0 c1 (.slice A0 m0 d0) (.slice A1 m1 d1) K c t x := by
    have h1 := Row.new (w.alloc (.cells #[.int .i64 c0, .int .i64 c1] 47)) 48 #[.slice A0 m0 d0, .slice A1 m1 d1]
    have h2 := Row.new ((w.alloc (.cells #[.int .i64 c0, .int .i64 c1] 47)).alloc (.cells #[.slice A0 m0 d0, .slice A1 m1 d1] 48)) 30 #[.int .i64 K, .int .i64 c, .int .i64 t, .int .i64 x]
    simp only [size_al] at h1 h2
    exact ⟨below_on (below_on (below_al _ _) (below_al _ _)) (below_al _ _), ((Row.new w 47 #[.int .i64 c0, .int .i64 c1]).below (below_al _ _)).below (below_al _ _), h1.below (below_al _ _), h2⟩
  have ARG := Lib.hid A0'
  have ISA := fun W => ris9_any c0 W
  have ISB := fun W => ris9_any c1 W
  simp only [show isC c0 = true from by unfold isC; simp; omega] at ISA
  simp only [show isC c1 = true from by unfold isC; simp; omega] at ISB
  have HISA := Lib.hid ISA
  have HISB := Lib.hid ISB
  have al := fun W => Lib.hid (alive9 W)
  have NA := Lib.hid (fun w0 => new_ptr9 c0 h0 w0)
  have NB := Lib.hid (fun w0 => new_ptr9 c1 h1 w0)
  have q1 : decide ((60 : Int) < (m0 : Int)) = true := by simp; omega
  have q1' : decide (60 < m0) = true := by simp; omega
  clear h0 h1 h ISA ISB
  clear A0'
  unfold opV9
  go_enter Try.func4, Try.ntmps4
  go_wp2_with fail
  have arg := ARG.out
  generalize ((w.alloc (.cells #[.int .i64 c0, .int .i64 c1] 47)).alloc (.cells #[.slice A0 m0 d0, .slice A1 m1 d1] 48)).alloc (.cells #[.int .i64 K, .int .i64 c, .int .i64 t, .int .i64 x] 30) = w0 at arg ⊢
  clear ARG
  have hb0 : Below w0.heap.size w0 w0 := Below.refl _ _
  have ARG := Lib.hid arg
  have KK := Lib.hid (fun (W : World) (hb : Below w0.heap.size w0 W) => (show W.cell? ⟨w.heap.size, 0, none⟩ = some (.int .i64 c0) ∧ W.cell? ⟨w.heap.size, 1, none⟩ = some (.int .i64 c1) ∧ Below w0.heap.size w0 W from ⟨(arg.below hb).a.cell 0, (arg.below hb).a.cell 1, hb⟩))
  have HNA := Lib.hid (NA.out w0)
  have HNB := Lib.hid (NB.out w0)
  clear arg
  go_region_held3 (fun W => W.cell? ⟨w.heap.size, 0, none⟩ = some (.int .i64 c0) ∧ W.cell? ⟨w.heap.size, 1, none⟩ = some (.int .i64 c1) ∧ Below w0.heap.size w0 W)
    (first | exact KK.out _ hb6 | exact KK.out _ hb5 | exact KK.out _ hb0.drew | exact KK.out _ hb0 | go_keep)
    (first
      | (go_at_call 8; (with_reducible refine (HNA.out _ ?_).mono ?_); (go_split_ands; assumption); rintro e w5 ⟨gA, rfl, hb5⟩)
      | (go_at_call 8; (with_reducible refine (HNB.out _ ?_).mono ?_); (go_split_ands; assumption); rintro e w6 ⟨gB, rfl, hb6⟩))
  all_goals
    have x0 := (ARG.out.below hb6).a.cell 0
    have x1 := (ARG.out.below hb6).a.cell 1
    have x2 := (ARG.out.below hb6).b.cell 0
    have x3 := (ARG.out.below hb6).b.cell 1
    simp only [List.getElem?_cons_zero, List.getElem?_cons_succ] at x0 x1 x2 x3
    go_wp2_with (first
      | (go_at_call 9; (with_reducible refine (HISA.out _).mono ?_); rintro e w' ⟨rfl, rfl⟩)
      | (go_at_call 9; (with_reducible refine (HISB.out _).mono ?_); rintro e w' ⟨rfl, rfl⟩)
      | (go_at_call 7; refine (al _).out.mono ?_; rintro e w7 ⟨rfl, hb7⟩))
    go_ret
    exact ⟨rfl, below_on ARG.out.bel (below_on hb6 hb7)⟩

set_option maxRecDepth 100000 in
set_option maxHeartbeats 2000000 in
theorem mboxSame_lenB (c0 c1 : Int) (A0 A1 : Option Addr) (m0 m1 d0 d1 : Nat) (K c t x : Int) (w : World) (h0 : ¬ (c0 < 1 ∨ 8 < c0)) (h1 : ¬ (c1 < 1 ∨ 8 < c1)) (h2 : ¬ 60 < m0) (h : 60 < m1) :
    Calls Try.prog 4 #[.agg #[.int .i64 c0, .int .i64 c1], .agg #[.slice A0 m0 d0, .slice A1 m1 d1], opV9 K c t x] w fun e w' => e = .returned (.bool true) ∧ Below w.heap.size w w' := by
  have A0' : Arg9 w (((w.alloc (.cells #[.int .i64 c0, .int .i64 c1] 47)).alloc (.cells #[.slice A0 m0 d0, .slice A1 m1 d1] 48)).alloc (.cells #[.int .i64 K, .int .i64 c, .int .i64 t, .int .i64 x] 30)) c0 c1 (.slice A0 m0 d0) (.slice A1 m1 d1) K c t x := by
    have h1 := Row.new (w.alloc (.cells #[.int .i64 c0, .int .i64 c1] 47)) 48 #[.slice A0 m0 d0, .slice A1 m1 d1]
    have h2 := Row.new ((w.alloc (.cells #[.int .i64 c0, .int .i64 c1] 47)).alloc (.cells #[.slice A0 m0 d0, .slice A1 m1 d1] 48)) 30 #[.int .i64 K, .int .i64 c, .int .i64 t, .int .i64 x]
    simp only [size_al] at h1 h2
    exact ⟨below_on (below_on (below_al _ _) (below_al _ _)) (below_al _ _), ((Row.new w 47 #[.int .i64 c0, .int .i64 c1]).below (below_al _ _)).below (below_al _ _), h1.below (below_al _ _), h2⟩
  have ARG := Lib.hid A0'
  have ISA := fun W => ris9_any c0 W
  have ISB := fun W => ris9_any c1 W
  simp only [show isC c0 = true from by unfold isC; simp; omega] at ISA
  simp only [show isC c1 = true from by unfold isC; simp; omega] at ISB
  have HISA := Lib.hid ISA
  have HISB := Lib.hid ISB
  have al := fun W => Lib.hid (alive9 W)
  have NA := Lib.hid (fun w0 => new_ptr9 c0 h0 w0)
  have NB := Lib.hid (fun w0 => new_ptr9 c1 h1 w0)
  have q1 : decide ((60 : Int) < (m0 : Int)) = false := by simp; omega
  have q1' : decide (60 < m0) = false := by simp; omega
  have q2 : decide ((60 : Int) < (m1 : Int)) = true := by simp; omega
  have q2' : decide (60 < m1) = true := by simp; omega
  clear h0 h1 h h2 ISA ISB
  clear A0'
  unfold opV9
  go_enter Try.func4, Try.ntmps4
  go_wp2_with fail
  have arg := ARG.out
  generalize ((w.alloc (.cells #[.int .i64 c0, .int .i64 c1] 47)).alloc (.cells #[.slice A0 m0 d0, .slice A1 m1 d1] 48)).alloc (.cells #[.int .i64 K, .int .i64 c, .int .i64 t, .int .i64 x] 30) = w0 at arg ⊢
  clear ARG
  have hb0 : Below w0.heap.size w0 w0 := Below.refl _ _
  have ARG := Lib.hid arg
  have KK := Lib.hid (fun (W : World) (hb : Below w0.heap.size w0 W) => (show W.cell? ⟨w.heap.size, 0, none⟩ = some (.int .i64 c0) ∧ W.cell? ⟨w.heap.size, 1, none⟩ = some (.int .i64 c1) ∧ Below w0.heap.size w0 W from ⟨(arg.below hb).a.cell 0, (arg.below hb).a.cell 1, hb⟩))
  have HNA := Lib.hid (NA.out w0)
  have HNB := Lib.hid (NB.out w0)
  clear arg
  go_region_held3 (fun W => W.cell? ⟨w.heap.size, 0, none⟩ = some (.int .i64 c0) ∧ W.cell? ⟨w.heap.size, 1, none⟩ = some (.int .i64 c1) ∧ Below w0.heap.size w0 W)
    (first | exact KK.out _ hb6 | exact KK.out _ hb5 | exact KK.out _ hb0.drew | exact KK.out _ hb0 | go_keep)
    (first
      | (go_at_call 8; (with_reducible refine (HNA.out _ ?_).mono ?_); (go_split_ands; assumption); rintro e w5 ⟨gA, rfl, hb5⟩)
      | (go_at_call 8; (with_reducible refine (HNB.out _ ?_).mono ?_); (go_split_ands; assumption); rintro e w6 ⟨gB, rfl, hb6⟩))
  all_goals
    have x0 := (ARG.out.below hb6).a.cell 0
    have x1 := (ARG.out.below hb6).a.cell 1
    have x2 := (ARG.out.below hb6).b.cell 0
    have x3 := (ARG.out.below hb6).b.cell 1
    simp only [List.getElem?_cons_zero, List.getElem?_cons_succ] at x0 x1 x2 x3
    go_wp2_with (first
      | (go_at_call 9; (with_reducible refine (HISA.out _).mono ?_); rintro e w' ⟨rfl, rfl⟩)
      | (go_at_call 9; (with_reducible refine (HISB.out _).mono ?_); rintro e w' ⟨rfl, rfl⟩)
      | (go_at_call 7; refine (al _).out.mono ?_; rintro e w7 ⟨rfl, hb7⟩))
    go_ret
    exact ⟨rfl, below_on ARG.out.bel (below_on hb6 hb7)⟩

theorem mboxSame_any (c0 c1 : Int) (v0 v1 : Value) (R0 R1 : List (List Int)) (K c t x : Int) (w : World) (hR0 : Recs w 4 v0 R0) (hR1 : Recs w 4 v1 R1) (hx : -9223372036854775808 ≤ x ∧ x ≤ 9223372036854775807) :
    Calls Try.prog 4 #[.agg #[.int .i64 c0, .int .i64 c1], .agg #[v0, v1], opV9 K c t x] w fun e w' => e = .returned (.bool true) ∧ Below w.heap.size w w' := by
  have k0 := hR0
  have k1 := hR1
  obtain ⟨A0, d0, rfl, _⟩ := hR0
  obtain ⟨A1, d1, rfl, _⟩ := hR1
  by_cases h0 : c0 < 1 ∨ 8 < c0
  · exact mboxSame_nilA c0 c1 A0 A1 _ _ d0 d1 K c t x w h0
  · by_cases h1 : c1 < 1 ∨ 8 < c1
    · exact mboxSame_nilB c0 c1 A0 A1 _ _ d0 d1 K c t x w h0 h1
    · by_cases h2 : 60 < R0.length
      · exact mboxSame_lenA c0 c1 A0 A1 _ _ d0 d1 K c t x w h0 h1 h2
      · by_cases h3 : 60 < R1.length
        · exact mboxSame_lenB c0 c1 A0 A1 _ _ d0 d1 K c t x w h0 h1 h2 h3
        · obtain ⟨na, rfl⟩ := Int.eq_ofNat_of_zero_le (show 0 ≤ c0 by omega)
          obtain ⟨nb, rfl⟩ := Int.eq_ofNat_of_zero_le (show 0 ≤ c1 by omega)
          exact mboxSame_main na nb _ _ R0 R1 K c t x w (by omega) (by omega) (by omega) (by omega) k0 k1 (by omega) (by omega) hx

#print axioms mboxSame_any
end Go.Proofs.Ytfboikefjealfaa
