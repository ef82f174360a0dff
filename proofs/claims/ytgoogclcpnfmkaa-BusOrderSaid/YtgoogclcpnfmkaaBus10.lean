/-
  Layer 6's laws: alive (the chapter's example), a nil bus compared, BusNobody.
  Conditions: those that each theorem states.
-/
import Derived.Test.YtgoogclcpnfmkaaBus9
namespace Go.Proofs.Ytgoogclcpnfmkaa
open Go.ChangeShapes Go.WideShapes Go.ChangeAt Go.RowKit

set_option maxRecDepth 100000 in
set_option maxHeartbeats 400000 in
theorem same6_nil (w : World) :
    Calls Try.prog 18 #[.pointer none, .pointer none] w fun e w' => e = .returned (.bool true) ∧ w = w' := by
  go_enter Try.func18, Try.ntmps18
  go_wp2
  go_ret
  exact ⟨rfl, rfl⟩

set_option maxRecDepth 100000 in
set_option maxHeartbeats 400000 in
theorem same6_left (g : Nat) (w : World) :
    Calls Try.prog 18 #[.pointer none, ptr g] w fun e w' => e = .returned (.bool false) ∧ w = w' := by
  have hn := fun W => nil_left (P := Try.prog) 25 77 ⟨g, 0, none⟩ Try.underlying25 W
  unfold ptr
  go_enter Try.func18, Try.ntmps18
  go_wp2
  go_ret
  exact ⟨rfl, rfl⟩

set_option maxRecDepth 100000 in
set_option maxHeartbeats 400000 in
theorem same6_right (g : Nat) (w : World) :
    Calls Try.prog 18 #[ptr g, .pointer none] w fun e w' => e = .returned (.bool false) ∧ w = w' := by
  unfold ptr
  go_enter Try.func18, Try.ntmps18
  go_wp2
  go_ret
  exact ⟨rfl, rfl⟩

set_option maxRecDepth 100000 in
set_option maxHeartbeats 400000 in
theorem clone6_nil (w : World) :
    Calls Try.prog 17 #[.pointer none] w fun e w' => e = .returned (.pointer none) ∧ w = w' := by
  go_enter Try.func17, Try.ntmps17
  go_wp2_with fail
  go_ret
  exact ⟨rfl, rfl⟩

/-- What changes only a bus that is newer than w has changed nothing of w. -/
theorem below_bus {B : Nat} {w w1 w2 : World} {L : Lay} {n : Nat} (hb : Below B w w1) (hB : B ≤ w1.heap.size) (hn : ∀ b, L.fp n b → B ≤ b) (ho : Only (L.fp n) w1 w2) : Below B w w2 :=
  Only.below hb ho hB (fun g hg h => by have := hn g h; omega)
theorem Ext.base {B : Nat} {L : Lay} {f : Nat → Option Nat} {w : World} {n : Nat} (h : Ext L f w) (hB : B ≤ w.heap.size) (hn : ∀ b, L.fp n b → B ≤ b) : ∀ b, (L.up f).fp n b → B ≤ b := fun b hb => (h.fp hb).elim (hn b) (fun h => by omega)

theorem al_store (L : Lay) (w : World) (r : BusAt w L 2 [0, 0, 0, 0] [[], []]) :
    Calls Try.prog 19 #[ptr L.g, .int .i64 0, .int .i64 1, .int .i64 5] w (BusP L 2 [0, 0, 0, 0] [[(1, 5)], []] (.int .i64 0) w) := by
  have h := store6_ok L 2 [0, 0, 0, 0] [[], []] 0 [] 1 5 w r rfl
  have e1 : stoL 2 [0, 0, 0, 0] [] 1 5 = [0, 0, 0, 0] := by decide
  have e2 : stoQ 2 [0, 0, 0, 0] [] 1 5 = [(1, 5)] := by decide
  have e3 : fillE (([0, 0, 0, 0] : List Int).length : Int) 1 1 5 = 0 := by decide
  rw [e1, e2, e3] at h
  exact h
theorem al_load0 (L : Lay) (w : World) (r : BusAt w L 2 [0, 0, 0, 0] [[(1, 5)], []]) :
    Calls Try.prog 20 #[ptr L.g, .int .i64 0, .int .i64 1] w fun e w' => e = .returned (.tuple #[.int .i64 5, .int .i64 0]) ∧ Below w.heap.size w w' := by
  have h := load6_ok L 2 [0, 0, 0, 0] [[(1, 5)], []] 0 [(1, 5)] 1 w r rfl
  have e1 : ldV [0, 0, 0, 0] [(1, 5)] 1 = 5 := by decide
  have e3 : runE (([0, 0, 0, 0] : List Int).length : Int) 1 1 = 0 := by decide
  rw [e1, e3] at h
  exact h
theorem al_load1 (L : Lay) (w : World) (r : BusAt w L 2 [0, 0, 0, 0] [[(1, 5)], []]) :
    Calls Try.prog 20 #[ptr L.g, .int .i64 1, .int .i64 1] w fun e w' => e = .returned (.tuple #[.int .i64 0, .int .i64 0]) ∧ Below w.heap.size w w' := by
  have h := load6_ok L 2 [0, 0, 0, 0] [[(1, 5)], []] 1 [] 1 w r rfl
  have e1 : ldV [0, 0, 0, 0] [] 1 = 0 := by decide
  have e3 : runE (([0, 0, 0, 0] : List Int).length : Int) 1 1 = 0 := by decide
  rw [e1, e3] at h
  exact h
theorem al_fence (L : Lay) (w : World) (r : BusAt w L 2 [0, 0, 0, 0] [[(1, 5)], []]) :
    Calls Try.prog 21 #[ptr L.g, .int .i64 0] w (BusP L 2 [0, 5, 0, 0] [[], []] (.tuple #[.int .i64 1, .int .i64 0]) w) := by
  have h := fence6_ok L 2 [0, 0, 0, 0] [[(1, 5)], []] 0 [(1, 5)] w r rfl
  have e1 : drs [0, 0, 0, 0] [(1, 5)] = [0, 5, 0, 0] := by decide
  rw [e1] at h
  exact h
theorem al_load2 (L : Lay) (w : World) (r : BusAt w L 2 [0, 5, 0, 0] [[], []]) :
    Calls Try.prog 20 #[ptr L.g, .int .i64 1, .int .i64 1] w fun e w' => e = .returned (.tuple #[.int .i64 5, .int .i64 0]) ∧ Below w.heap.size w w' := by
  have h := load6_ok L 2 [0, 5, 0, 0] [[], []] 1 [] 1 w r rfl
  have e1 : ldV [0, 5, 0, 0] [] 1 = 5 := by decide
  have e3 : runE (([0, 5, 0, 0] : List Int).length : Int) 1 1 = 0 := by decide
  rw [e1, e3] at h
  exact h

set_option maxRecDepth 100000 in
set_option maxHeartbeats 1000000 in
theorem alive6 (w : World) :
    Calls Try.prog 10 #[] w fun e w' => e = .returned (.bool true) ∧ Below w.heap.size w w' := by
  have nw : Calls Try.prog 11 #[.int .i64 2, .int .i64 4, .int .i64 2] w (MadeP 2 [0, 0, 0, 0] [[], []] (fun g => .tuple #[.pointer (some ⟨g, 0, none⟩), .int .i64 0]) w) := new6_yes 2 4 2 w (by omega) (by omega) (by omega) (by omega) (by omega) (by omega)
  have NW := Lib.hid nw
  clear nw
  go_enter Try.func10, Try.ntmps10
  go_wp2_with fail
  go_at_call 11
  refine NW.out.mono ?_
  rintro e w1 ⟨L, rfl, hr1, hn1, hb1⟩
  have R1 := Lib.hid hr1
  have HN1 := Lib.hid hn1
  have HB1 := Lib.hid hb1
  clear hr1 hn1 hb1
  go_wp2_with fail
  go_at_call 19
  refine (al_store L w1 R1.out).mono ?_
  rintro e w2 ⟨f, rfl, hr2, he2, ho2⟩
  have R2 := Lib.hid hr2
  have HN2 := Lib.hid (he2.base HB1.out.size HN1.out)
  have HB2 := Lib.hid (below_bus HB1.out HB1.out.size HN1.out ho2)
  clear hr2 he2 ho2
  go_wp2_with fail
  go_at_call 20
  refine (al_load0 (L.up f) w2 R2.out).mono ?_
  rintro e w3 ⟨rfl, hb3⟩
  have R3 := Lib.hid (R2.out.below hb3)
  have HB3 := Lib.hid (HB2.out.trans (hb3.mono HB2.out.size))
  clear hb3
  go_wp2_with fail
  go_at_call 20
  refine (al_load1 (L.up f) w3 R3.out).mono ?_
  rintro e w4 ⟨rfl, hb4⟩
  have R4 := Lib.hid (R3.out.below hb4)
  have HB4 := Lib.hid (HB3.out.trans (hb4.mono HB3.out.size))
  clear hb4
  go_wp2_with fail
  go_at_call 21
  refine (al_fence (L.up f) w4 R4.out).mono ?_
  rintro e w5 ⟨f5, rfl, hr5, he5, ho5⟩
  have R5 := Lib.hid hr5
  have HB5 := Lib.hid (below_bus HB4.out HB4.out.size HN2.out ho5)
  clear hr5 he5 ho5
  go_wp2_with fail
  go_at_call 20
  refine (al_load2 (L.up f5) w5 R5.out).mono ?_
  rintro e w6 ⟨rfl, hb6⟩
  have HB6 := Lib.hid (HB5.out.trans (hb6.mono HB5.out.size))
  clear hb6
  go_wp2
  go_ret
  exact ⟨rfl, HB6.out⟩

set_option maxRecDepth 100000 in
set_option maxHeartbeats 1000000 in
theorem busNobody_any (K c a x : Int) (w : World) :
    Calls Try.prog 7 #[opV K c a x] w fun e w' => e = .returned (.bool true) ∧ Below w.heap.size w w' := by
  have NW : Hid (∀ W, Calls Try.prog 11 #[.int .i64 1, .int .i64 1, .int .i64 1] W (MadeP 1 [0] [[]] (fun g => .tuple #[.pointer (some ⟨g, 0, none⟩), .int .i64 0]) W)) := Lib.hid (fun W => new6_yes 1 1 1 W (by omega) (by omega) (by omega) (by omega) (by omega) (by omega))
  have DN := Lib.hid (fun W => do6_nil K c a x W)
  unfold opV at DN ⊢
  go_enter Try.func7, Try.ntmps7
  go_wp2_with fail
  go_at_call 11
  refine (NW.out _).mono ?_
  rintro e w1 ⟨L, rfl, hr1, hn1, hb1⟩
  have hp := (Row.new w 37 #[.int .i64 K, .int .i64 c, .int .i64 a, .int .i64 x]).below hb1
  have p0 := hp.cell 0
  have p1 := hp.cell 1
  have p2 := hp.cell 2
  have p3 := hp.cell 3
  simp only [List.getElem?_cons_zero, List.getElem?_cons_succ] at p0 p1 p2 p3
  have HB1 := Lib.hid (below_on (below_al _ _) hb1)
  clear hr1 hn1 hb1 hp
  go_wp2_with fail
  go_at_call 15
  refine (DN.out _).mono ?_
  rintro e w2 ⟨rfl, hb2⟩
  have HB2 := Lib.hid (below_on HB1.out hb2)
  clear hb2
  go_wp2_with fail
  go_at_call 25
  refine (cores6_nil _).mono ?_
  rintro e w' ⟨rfl, rfl⟩
  go_wp2_with fail
  go_at_call 24
  refine (waits6_nil _ _).mono ?_
  rintro e w3 ⟨rfl, hb3⟩
  have HB3 := Lib.hid (below_on HB2.out hb3)
  clear hb3
  go_wp2_with fail
  go_at_call 23
  refine (ram6_nil _).mono ?_
  rintro e w' ⟨rfl, rfl⟩
  go_wp2_with fail
  go_at_call 17
  refine (clone6_nil _).mono ?_
  rintro e w' ⟨rfl, rfl⟩
  go_wp2_with fail
  go_at_call 18
  refine (same6_nil _).mono ?_
  rintro e w' ⟨rfl, rfl⟩
  go_wp2_with fail
  go_at_call 18
  refine (same6_left L.g _).mono ?_
  rintro e w' ⟨rfl, rfl⟩
  go_wp2_with fail
  go_at_call 18
  refine (same6_right L.g _).mono ?_
  rintro e w' ⟨rfl, rfl⟩
  go_wp2_with fail
  go_at_call 10
  refine (alive6 _).mono ?_
  rintro e w4 ⟨rfl, hb4⟩
  have HB4 := Lib.hid (below_on HB3.out hb4)
  clear hb4
  go_wp2
  go_ret
  exact ⟨rfl, HB4.out⟩

#print axioms alive6
#print axioms busNobody_any
end Go.Proofs.Ytgoogclcpnfmkaa
