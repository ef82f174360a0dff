/-
  The chapter's example (alive), and the walk of the law SbufNobody.
  Conditions: none.
-/
import Derived.Test.YtnclocbbngnebaaSbuf5
namespace Go.Proofs.Ytnclocbbngnebaa
open Go.ChangeShapes Go.WideShapes Go.ChangeAt Go.RowKit

theorem two_cells : cvs [(5, 2), (4, 3)] = [.complex .f64 4617315517961601024 4611686018427387904, .complex .f64 4616189618054758400 4613937818241073152] := by
  simp only [cvs, List.map_cons, List.map_nil, cellV]
  rw [show floatOfInt .f64 5 = 4617315517961601024 by decide +kernel, show floatOfInt .f64 2 = 4611686018427387904 by decide +kernel, show floatOfInt .f64 4 = 4616189618054758400 by decide +kernel, show floatOfInt .f64 3 = 4613937818241073152 by decide +kernel]

theorem bufNew_four (w : World) : Calls Try.prog 7 #[.int .i64 4] w (BufNewP 4 w) := bufNew_yes 4 w (by omega) (by omega)

set_option maxHeartbeats 1000000 in
theorem sbuf_alive (w : World) :
    Calls Try.prog 6 #[] w fun e w' => e = .returned (.bool true) ∧ Below w.heap.size w w' := by
  go_enter Try.func6, Try.ntmps6
  go_wp2_with fail
  refine (bufNew_four w).mono ?_
  rintro e w1 ⟨g, rfl, r1, hg, hb1⟩
  have hs1 := hb1.size
  have p1 := Lib.hid (bput_room g none 4 [] 4 1 w1 r1 (by unfold okC; omega) (by decide))
  unfold ptr at p1 ⊢
  go_wp2_with fail
  refine p1.out.mono ?_
  rintro e w2 ⟨h2, rfl, r2, ho2, hh2⟩
  have hh2' : ∀ b, h2 = some b → w.heap.size ≤ b := fun b hb => by rcases hh2 b hb with h | h; cases h; omega
  have hb2 := Only.below hb1 ho2 hs1 (fun x hx e => by rcases e with e | e; omega; cases e)
  have hs2 := hb2.size
  have p2 := Lib.hid (bput_room g h2 4 [(4, 1)] 5 2 w2 r2 (by unfold okC; omega) (by decide))
  unfold ptr at p2
  clear p1
  go_wp2_with fail
  refine p2.out.mono ?_
  rintro e w3 ⟨h3, rfl, r3, ho3, hh3⟩
  have hh3' : ∀ b, h3 = some b → w.heap.size ≤ b := fun b hb => by rcases hh3 b hb with h | h; exact hh2' b h; omega
  have hb3 := Only.below hb2 ho3 hs2 (fun x hx e => by rcases e with e | e; omega; have := hh2' x e; omega)
  have hs3 := hb3.size
  have p3 := Lib.hid (bput_room g h3 4 [(4, 1), (5, 2)] 4 3 w3 r3 (by unfold okC; omega) (by decide))
  unfold ptr at p3
  clear p2
  go_wp2_with fail
  refine p3.out.mono ?_
  rintro e w4 ⟨h4, rfl, r4, ho4, hh4⟩
  have hh4' : ∀ b, h4 = some b → w.heap.size ≤ b := fun b hb => by rcases hh4 b hb with h | h; exact hh3' b h; omega
  have hb4 := Only.below hb3 ho4 hs3 (fun x hx e => by rcases e with e | e; omega; have := hh3' x e; omega)
  have hs4 := hb4.size
  have p4 := Lib.hid (bfind_any g h4 4 [(4, 1), (5, 2), (4, 3)] 4 w4 r4)
  have p5 := Lib.hid (bdrain_some g h4 4 4 1 [(5, 2), (4, 3)] w4 r4)
  have f4 : fnd [(4, 1), (5, 2), (4, 3)] 4 = some 3 := by decide
  rw [f4] at p4
  unfold ptr at p4 p5
  clear p3 f4
  go_wp2_with fail
  refine p4.out.mono ?_
  rintro e w' ⟨rfl, rfl⟩
  unfold fV fB
  simp only [Option.getD_some, Option.isSome_some]
  clear p4
  go_wp2_with fail
  refine p5.out.mono ?_
  rintro e w5 ⟨h5, rfl, r5, ho5, hh5⟩
  have hb5 := Only.below hb4 ho5 hs4 (fun x hx e => by rcases e with e | e; omega; have := hh4' x e; omega)
  have p6 := Lib.hid (ball_any g h5 4 [(5, 2), (4, 3)] w5 r5)
  unfold ptr at p6
  clear p5
  go_wp2_with fail
  refine p6.out.mono ?_
  rintro e w6 ⟨b6, rfl, hr6, hlt6, hb6⟩
  have L1 := Lib.hid (Lies.of_row (P := fun _ => True) (hr6.out.below (below_al w6 (.cells #[.complex .f64 4617315517961601024 4611686018427387904, .complex .f64 4616189618054758400 4613937818241073152] 57))) trivial 2)
  have r7 := Row.new w6 57 #[.complex .f64 4617315517961601024 4611686018427387904, .complex .f64 4616189618054758400 4613937818241073152]
  simp only [← two_cells] at r7
  have L2 := Lib.hid (Lies.of_row (P := fun _ => True) r7 trivial 2)
  clear r7 p6 hr6
  go_wp2_with fail
  refine (csame_yes _ _ _ _ [(5, 2), (4, 3)] _ L1.out L2.out r5.fit.2.2.2.2.2 (by decide)).mono ?_
  rintro e w7 ⟨rfl, hb7⟩
  go_wp2
  go_ret
  exact ⟨rfl, below_on (below_on (below_on hb5 hb6) (below_al _ _)) hb7⟩

set_option maxHeartbeats 1000000 in
theorem sbufNobody_any (K a b : Int) (w : World) :
    Calls Try.prog 5 #[opV5 K a b] w fun e w' => e = .returned (.bool true) ∧ Below w.heap.size w w' := by
  obtain ⟨n, hn⟩ : ∃ n, nilF5 K = n := ⟨_, rfl⟩
  have dn := fun W => do5_nil K a b W
  rw [hn] at dn
  have hk : (K = 0 ∧ n = 1) ∨ (K ≠ 0 ∧ n = 0) := by
    unfold nilF5 at hn
    by_cases h0 : K = 0
    · left; rw [if_pos h0] at hn; exact ⟨h0, hn.symm⟩
    · right; rw [if_neg h0] at hn; exact ⟨h0, hn.symm⟩
  clear hn
  have DN := Lib.hid dn; clear dn
  have eq := eql_st 0 0 0 0
  simp only [BEq.rfl, Bool.and_self] at eq
  unfold opV5 stV at DN
  unfold opV5
  rcases hk with ⟨rfl, rfl⟩ | ⟨h0, rfl⟩
  all_goals
    try (have b0 : (K == 0) = false := by simpa using h0)
    try clear h0
    go_enter Try.func5, Try.ntmps5
    go_wp2_with fail
    refine (DN.out _).mono ?_
    rintro e w1 ⟨rfl, hb1⟩
    have hc1 := hb1.cell (p := ⟨w.heap.size, 0, none⟩) (by simp)
    simp [go_sem] at hc1
    have hlt1 : w.heap.size < w1.heap.size := by have := hb1.size; simp at this; omega
    have n1 : w.heap.size ≠ w1.heap.size := by omega
    have hc2 : ∀ o : Obj, (w1.alloc o).cell? ⟨w.heap.size, 0, none⟩ = _ := fun o => ((below_al w1 o).cell (p := ⟨w.heap.size, 0, none⟩) hlt1).trans hc1
    go_wp2_with fail
    refine (bcap_nil _).mono ?_
    rintro e w' ⟨rfl, rfl⟩
    go_wp2_with fail
    refine (blen_nil _).mono ?_
    rintro e w' ⟨rfl, rfl⟩
    go_wp2_with fail
    refine (ball_nil _).mono ?_
    rintro e w' ⟨rfl, rfl⟩
    go_wp2_with fail
    refine (bclone_nil _).mono ?_
    rintro e w' ⟨rfl, rfl⟩
    go_wp2_with fail
    refine (sbuf_alive _).mono ?_
    rintro e w3 ⟨rfl, hb3⟩
    go_wp2
    go_ret
    exact ⟨rfl, below_on (below_on (below_on (below_al _ _) hb1) (below_al _ _)) hb3⟩

#print axioms sbuf_alive
#print axioms sbufNobody_any
end Go.Proofs.Ytnclocbbngnebaa
