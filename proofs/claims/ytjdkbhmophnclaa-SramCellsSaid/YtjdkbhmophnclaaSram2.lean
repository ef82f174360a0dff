/-
  The example of layer 3 (alive), and the walk of the law SramNobody.
  Conditions: none.
-/
import Derived.Test.YtjdkbhmophnclaaSram
namespace Go.Proofs.Ytjdkbhmophnclaa
open Go.ChangeShapes Go.WideShapes Go.ChangeAt Go.RowKit

theorem new_four (w : World) :
    Calls Try.prog 8 #[.int .i64 4] w fun e w' => e = .returned (.tuple #[ptr (w.heap.size + 1), .int .i64 0]) ∧ RamAt w' (w.heap.size + 1) w.heap.size [0, 0, 0, 0] ∧ Below w.heap.size w w' :=
  new_yes 4 w (by omega) (by omega)

theorem c29 : cellV 2 9 = .complex .f64 4611686018427387904 4621256167635550208 := by
  unfold cellV; rw [show floatOfInt .f64 2 = 4611686018427387904 by decide +kernel, show floatOfInt .f64 9 = 4621256167635550208 by decide +kernel]

theorem ex_fill : fillL [0, 0, 0, 0] 2 1 9 = [0, 0, 9, 0] := by decide
theorem ex_fillE : fillE (([0, 0, 0, 0] : List Int).length : Int) 2 1 9 = 0 := by decide
theorem ex_span : spanL [0, 0, 9, 0] 1 2 = [0, 9] := by decide
theorem ex_spanE : runE (([0, 0, 9, 0] : List Int).length : Int) 1 2 = 0 := by decide
theorem ex_cells : cellsK [0, 0, 9, 0] ([0, 0, 9, 0] : List Int).length = [cellV 2 9] := by simp [cellsK]

set_option maxHeartbeats 1000000 in
theorem sram_alive (w : World) :
    Calls Try.prog 7 #[] w fun e w' => e = .returned (.bool true) ∧ Below w.heap.size w w' := by
  go_enter Try.func7, Try.ntmps7
  go_wp2_with fail
  refine (new_four w).mono ?_
  rintro e w1 ⟨rfl, r1, hb1⟩
  have hs1 := hb1.size
  have st := Lib.hid (store_any _ _ _ 2 9 w1 r1)
  rw [ex_fill, ex_fillE] at st
  unfold ptr
  go_wp2_with fail
  refine st.out.mono ?_
  rintro e w2 ⟨rfl, r2, hg2⟩
  have hb2 : Below w.heap.size w w2 := below_gr hb1 hs1 hg2 (Nat.le_refl _)
  have sp := Lib.hid (span_any _ _ _ 1 2 w2 r2 (by omega))
  unfold SpanP at sp
  rw [ex_span, ex_spanE] at sp
  unfold ptr at sp
  clear st
  go_wp2_with fail
  refine sp.out.mono ?_
  rintro e w3 ⟨v3, rfl, hv3, hb3⟩
  have hb3' : Below w.heap.size w w3 := hb2.trans (hb3.mono hb2.size)
  have r3 := r2.below hb3
  clear sp
  go_wp2_with fail
  have L4 := Lies.fresh w3 (fun _ => True) 3 (ints [0, 9]) w3.heap.size rfl trivial 2
  have b4 : Below w3.heap.size w3 (w3.alloc (.cells (ints [0, 9]).toArray 3)) := (Below.refl _ _).alloc (Nat.le_refl _) _
  refine (rsame_any _ _ _ _ [0, 9] [0, 9] _ (hv3.below b4) L4 (by simp) (by simp)).mono ?_
  rintro e w5 ⟨rfl, hb5⟩
  have hb5' : Below w.heap.size w w5 := hb3'.trans ((below_on b4 hb5).mono hb3'.size)
  have r5 := (r3.below b4).below hb5
  have ce := Lib.hid (cells_any _ _ _ w5 r5)
  rw [ex_cells] at ce
  unfold ptr at ce
  go_wp2_with fail
  refine ce.out.mono ?_
  rintro e w6 ⟨v6, rfl, hv6, hb6⟩
  have hb6' : Below w.heap.size w w6 := hb5'.trans (hb6.mono hb5'.size)
  clear ce
  go_wp2_with fail
  have L7 := Lies.fresh w6 (fun _ => True) 43 [cellV 2 9] w6.heap.size rfl trivial 1
  have b7 : Below w6.heap.size w6 (w6.alloc (.cells [cellV 2 9].toArray 43)) := (Below.refl _ _).alloc (Nat.le_refl _) _
  have hv7 := hv6.below b7
  have hsf : ∀ c ∈ [cellV 2 9], Selfish c := by
    intro c hc; simp at hc; subst hc
    exact ⟨_, _, rfl, fl_self 2 (by omega) (by omega), fl_self 9 (by omega) (by omega)⟩
  have cs := cellSame_any _ _ _ _ _ _ hv7 L7 (by simp) hsf
  rw [c29] at cs b7
  refine cs.mono ?_
  rintro e w8 ⟨rfl, hb8⟩
  go_wp2
  go_ret
  exact ⟨rfl, hb6'.trans ((below_on b7 hb8).mono hb6'.size)⟩

#print axioms sram_alive
end Go.Proofs.Ytjdkbhmophnclaa
