/-
  Layer 9 (mbox): alive (the chapter's example); MboxNobody.
  Conditions: those that each theorem states.
-/
import Derived.Test.YtfboikefjealfaaMb14
namespace Go.Proofs.Ytfboikefjealfaa
open Go.ChangeShapes Go.WideShapes Go.ChangeAt Go.RowKit

/-- What changed only mailboxes newer than w has changed nothing below w. -/
theorem below_box {w w1 w2 : World} {L : MLay} {n : Nat} (hb : Below w.heap.size w w1) (hn : ∀ b, L.fp n b → w.heap.size ≤ b) (ho : Only (L.fp n) w1 w2) : Below w.heap.size w w2 :=
  Only.below hb ho hb.size (fun g hg h => by have := hn g h; omega)

def e9a : List Mail := List.replicate 2 mail0
def e9b : List Mail := rgMs e9a 0 1 7
def e9c : List Mail := tkMs e9b 1
def e9d : List Mail := akMs e9c 1 1

theorem al9_ring (L : MLay) (w : World) (r : BoxAt w L e9a) : Calls Try.prog 18 #[.pointer (some ⟨L.g, 0, none⟩), .int .i64 0, .int .i64 1, .int .i64 7] w (BoxP L e9b (.int .i64 0) w) := by
  have h := ring9_any L e9a 0 1 7 w r
  rw [show rgErr e9a 0 1 7 = 0 from by decide] at h
  exact h
theorem al9_take (L : MLay) (w : World) (r : BoxAt w L e9b) : Calls Try.prog 19 #[.pointer (some ⟨L.g, 0, none⟩), .int .i64 1] w (BoxP L e9c (.tuple #[.int .i64 0, .int .i64 7, .int .i64 0]) w) := by
  have h := take9_any L e9b 1 w r
  rw [show tkF9 e9b 1 = 0 from by decide, show tkW9 e9b 1 = 7 from by decide, show tkE9 e9b 1 = 0 from by decide] at h
  exact h
theorem al9_pend (L : MLay) (w : World) (r : BoxAt w L e9c) : Calls Try.prog 12 #[.pointer (some ⟨L.g, 0, none⟩), .int .i64 1] w (TellP (.tuple #[.int .i64 1, .int .i64 0]) w) := by
  have h := pend9_any L e9c 1 w r
  rw [show pdV e9c 1 = 1 from by decide, show cE e9c 1 = 0 from by decide] at h
  exact h
theorem al9_ack (L : MLay) (w : World) (r : BoxAt w L e9c) : Calls Try.prog 20 #[.pointer (some ⟨L.g, 0, none⟩), .int .i64 1, .int .i64 1] w (BoxP L e9d (.int .i64 0) w) := by
  have h := ack9_any L e9c 1 1 w r
  rw [show cE e9c 1 = 0 from by decide] at h
  exact h
theorem al9_pend2 (L : MLay) (w : World) (r : BoxAt w L e9d) : Calls Try.prog 12 #[.pointer (some ⟨L.g, 0, none⟩), .int .i64 1] w (TellP (.tuple #[.int .i64 0, .int .i64 0]) w) := by
  have h := pend9_any L e9d 1 w r
  rw [show pdV e9d 1 = 0 from by decide, show cE e9d 1 = 0 from by decide] at h
  exact h

set_option maxRecDepth 100000 in
set_option maxHeartbeats 2000000 in
theorem alive9 (w : World) :
    Calls Try.prog 7 #[] w fun e w' => e = .returned (.bool true) ∧ Below w.heap.size w w' := by
  have nw : Calls Try.prog 8 #[.int .i64 2] w (MadeB e9a w) := new9_yes 2 w (by omega) (by omega)
  have NW := Lib.hid nw
  clear nw
  go_enter Try.func7, Try.ntmps7
  go_wp2_with fail
  go_at_call 8
  refine NW.out.mono ?_
  rintro e w1 ⟨L, rfl, hr1, hn1, hb1⟩
  have R1 := Lib.hid hr1
  have HN1 : Hid (∀ b, L.fp 2 b → w.heap.size ≤ b) := Lib.hid hn1
  have HB1 := Lib.hid hb1
  clear hr1 hn1 hb1
  go_wp2_with fail
  go_at_call 18
  refine (al9_ring L w1 R1.out).mono ?_
  rintro e w2 ⟨rfl, hr2, ho2⟩
  have R2 := Lib.hid hr2
  have HB2 := Lib.hid (below_box HB1.out HN1.out ho2)
  clear hr2 ho2
  go_wp2_with fail
  go_at_call 19
  refine (al9_take L w2 R2.out).mono ?_
  rintro e w3 ⟨rfl, hr3, ho3⟩
  have R3 := Lib.hid hr3
  have HB3 := Lib.hid (below_box HB2.out HN1.out ho3)
  clear hr3 ho3
  go_wp2_with fail
  go_at_call 12
  refine (al9_pend L w3 R3.out).mono ?_
  rintro e w4 ⟨rfl, hb4⟩
  have R4 := Lib.hid (R3.out.below hb4)
  have HB4 := Lib.hid (below_on HB3.out hb4)
  clear hb4
  go_wp2_with fail
  go_at_call 20
  refine (al9_ack L w4 R4.out).mono ?_
  rintro e w5 ⟨rfl, hr5, ho5⟩
  have R5 := Lib.hid hr5
  have HB5 := Lib.hid (below_box HB4.out HN1.out ho5)
  clear hr5 ho5
  go_wp2_with fail
  go_at_call 12
  refine (al9_pend2 L w5 R5.out).mono ?_
  rintro e w6 ⟨rfl, hb6⟩
  have HB6 := Lib.hid (below_on HB5.out hb6)
  clear hb6
  go_wp2
  go_ret
  exact ⟨rfl, HB6.out⟩

set_option maxRecDepth 100000 in
set_option maxHeartbeats 2000000 in
theorem mboxNobody_any (K c t x : Int) (w : World) :
    Calls Try.prog 6 #[opV9 K c t x] w fun e w' => e = .returned (.bool true) ∧ Below w.heap.size w w' := by
  have NW : Hid (∀ W, Calls Try.prog 8 #[.int .i64 1] W (MadeB (List.replicate 1 mail0) W)) := Lib.hid (fun W => new9_yes 1 W (by omega) (by omega))
  have DN := Lib.hid (fun W => do9_nil K c t x W)
  have WN := Lib.hid (fun W => waits9_nil c W)
  unfold opV9 doV9 at DN
  unfold opV9
  go_enter Try.func6, Try.ntmps6
  go_wp2_with fail
  go_at_call 8
  refine (NW.out _).mono ?_
  rintro e w1 ⟨L, rfl, hr1, hn1, hb1⟩
  have HB1 := Lib.hid (below_on (below_al _ _) hb1)
  have I1 := (Row.new w 30 #[.int .i64 K, .int .i64 c, .int .i64 t, .int .i64 x]).below hb1
  have x0 := I1.cell 0
  have x1 := I1.cell 1
  have x2 := I1.cell 2
  have x3 := I1.cell 3
  simp only [List.getElem?_cons_zero, List.getElem?_cons_succ] at x0 x1 x2 x3
  have HI1 := Lib.hid I1
  clear hr1 hn1 hb1 I1
  go_wp2_with fail
  go_at_call 11
  refine (DN.out _).mono ?_
  rintro e w2 ⟨rfl, hb2⟩
  have x1 := (HI1.out.below hb2).cell 1
  simp only [List.getElem?_cons_zero, List.getElem?_cons_succ] at x1
  have HB2 := Lib.hid (below_on HB1.out hb2)
  have hl2 := (HI1.out.below hb2).lt
  have hl3 : w.heap.size ≠ w2.heap.size := by omega
  clear hb2
  go_wp2_with fail
  go_at_call 14
  refine (WN.out _).mono ?_
  rintro e w3 ⟨rfl, hb3⟩
  have HB3 := Lib.hid (below_on (below_on HB2.out (below_al _ _)) hb3)
  clear hb3
  go_wp2_with fail
  go_at_call 17
  refine (clone9_nil _).mono ?_
  rintro e w' ⟨rfl, rfl⟩
  go_wp2_with fail
  go_at_call 15
  refine (same9_nil _).mono ?_
  rintro e w' ⟨rfl, rfl⟩
  go_wp2_with fail
  go_at_call 15
  refine (same9_left _ _).mono ?_
  rintro e w' ⟨rfl, rfl⟩
  go_wp2_with fail
  go_at_call 15
  refine (same9_right _ _).mono ?_
  rintro e w' ⟨rfl, rfl⟩
  go_wp2_with fail
  go_at_call 7
  refine (alive9 _).mono ?_
  rintro e w4 ⟨rfl, hb4⟩
  have HB4 := Lib.hid (below_on HB3.out hb4)
  clear hb4
  go_wp2
  go_ret
  exact ⟨rfl, HB4.out⟩

#print axioms alive9
#print axioms mboxNobody_any
end Go.Proofs.Ytfboikefjealfaa
