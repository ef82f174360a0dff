/-
  The walk of the law SramNobody: it returns true for every input, and nothing that was there before the call changes.
  Conditions: none.
-/
import Derived.Test.YtjdkbhmophnclaaSram2
namespace Go.Proofs.Ytjdkbhmophnclaa
open Go.ChangeShapes Go.WideShapes Go.ChangeAt Go.RowKit

theorem new_one (w : World) :
    Calls Try.prog 8 #[.int .i64 1] w fun e w' => e = .returned (.tuple #[ptr (w.heap.size + 1), .int .i64 0]) ∧ RamAt w' (w.heap.size + 1) w.heap.size [0] ∧ Below w.heap.size w w' :=
  new_yes 1 w (by omega) (by omega)

set_option maxHeartbeats 1000000 in
theorem sramNobody_any (K a n x : Int) (w : World) :
    Calls Try.prog 6 #[opV K a n x] w fun e w' => e = .returned (.bool true) ∧ Below w.heap.size w w' := by
  unfold opV
  go_enter Try.func6, Try.ntmps6
  go_wp2_with fail
  refine (new_one _).mono ?_
  rintro e w1 ⟨rfl, r1, hb1⟩
  have hs1 := hb1.size
  simp at hs1
  have hc1 : w1.cell? ⟨w.heap.size, 0, none⟩ = some (.int .i64 K) := (hb1.cell (p := ⟨w.heap.size, 0, none⟩) (by simp)).trans (by simp [go_sem])
  have hc2 : w1.cell? ⟨w.heap.size, 1, none⟩ = some (.int .i64 a) := (hb1.cell (p := ⟨w.heap.size, 1, none⟩) (by simp)).trans (by simp [go_sem])
  have hc3 : w1.cell? ⟨w.heap.size, 2, none⟩ = some (.int .i64 n) := (hb1.cell (p := ⟨w.heap.size, 2, none⟩) (by simp)).trans (by simp [go_sem])
  have hc4 : w1.cell? ⟨w.heap.size, 3, none⟩ = some (.int .i64 x) := (hb1.cell (p := ⟨w.heap.size, 3, none⟩) (by simp)).trans (by simp [go_sem])
  unfold ptr
  go_wp2_with fail
  refine (do_nil K a n x _).mono ?_
  rintro e w2 ⟨v, xs, rfl, hv, h0, hl, hb2⟩
  obtain ⟨A, c, rfl, hA⟩ := hv
  rw [ints_len] at hA ⊢
  obtain ⟨m, hm⟩ : ∃ m, xs.length = m := ⟨_, rfl⟩
  rw [hm] at hA hl ⊢
  have HA := Lib.hid hA; clear hA
  have HM := Lib.hid hm; clear hm
  have H0 := Lib.hid h0; clear h0
  have r2 := r1.below hb2
  go_wp2
  go_loop [28] (fun i => ∃ k : Nat, k ≤ m ∧ i = .int .i64 k) (fun i => m - (intOf i).toNat)
  case atStart => exact ⟨0, Nat.zero_le _, rfl⟩
  case round =>
    obtain ⟨k, hk, rfl⟩ := hrel
    by_cases hlt : k < m
    · obtain ⟨g, o, rfl, hP, hg, hc⟩ := HA.out (by omega)
      obtain ⟨z, hz⟩ : ∃ z, xs[k]? = some z := ⟨_, List.getElem?_eq_getElem (by rw [HM.out]; exact hlt)⟩
      obtain rfl : z = 0 := H0.out z (List.mem_of_getElem? hz)
      have c1 := hc k _ (ints_some hz)
      clear hz hc
      go_wp2
      go_round
      case rel => exact ⟨k + 1, by omega, by go_num⟩
      case measure => simp [intOf]; omega
    · obtain rfl : k = m := by omega
      go_wp2_with fail
      refine (size_nil _).mono ?_
      rintro e w' ⟨rfl, rfl⟩
      go_wp2_with fail
      refine (clone_nil _).mono ?_
      rintro e w' ⟨rfl, rfl⟩
      go_wp2_with fail
      refine (cells_nil _).mono ?_
      rintro e w' ⟨rfl, rfl⟩
      go_wp2_with fail
      refine (sameRam_nil _).mono ?_
      rintro e w' ⟨rfl, rfl⟩
      go_wp2_with fail
      refine (sameRam_left _ _).mono ?_
      rintro e w' ⟨rfl, rfl⟩
      go_wp2_with fail
      refine (sameRam_right _ _).mono ?_
      rintro e w' ⟨rfl, rfl⟩
      go_wp2_with fail
      refine (sram_alive _).mono ?_
      rintro e w3 ⟨rfl, hb3⟩
      go_wp2
      go_ret
      exact ⟨rfl, below_on (below_on (below_on ((Below.refl _ _).alloc (Nat.le_refl _) _) hb1) hb2) hb3⟩

#print axioms sramNobody_any
end Go.Proofs.Ytjdkbhmophnclaa
