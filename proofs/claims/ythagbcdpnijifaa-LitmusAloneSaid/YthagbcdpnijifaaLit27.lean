/-
  Layer 7 (litmus): the law LitmusAlone over whatever program in memory.
  Conditions: those that each theorem states.
-/
import Derived.Test.YthagbcdpnijifaaLit26
import Derived.Test.YthagbcdpnijifaaPrg
namespace Go.Proofs.Ythagbcdpnijifaa
open Go.ChangeShapes Go.WideShapes Go.ChangeAt Go.RowKit

set_option maxRecDepth 100000 in
set_option maxHeartbeats 1000000 in
theorem alone_no (buf : Int) (v : Value) (l : List Opn) (w : World) (hp : Recs w 4 v (l.map opL)) (hm : l.length ≤ 4) (hR : ¬ RightS [l] buf) :
    Calls Try.prog 8 #[v, .int .i64 buf] w fun e w' => e = .returned (.bool true) ∧ Below w.heap.size w w' := by
  have HP := Lib.hid hp
  have ON := Lib.hid (outcomes_no buf _ [l] _ (one_prg hp 38) (by simp) hR)
  have hf : rightB [l] buf = false := by
    cases h : rightB [l] buf with
    | true => exact absurd ((rightB_iff [l] buf).1 h) hR
    | false => rfl
  have RN := Lib.hid (fun W (hb : Below w.heap.size w W) => right_any buf _ [l] _ (one_prg (hp.below hb) 38) (by simp))
  rw [hf] at RN
  obtain ⟨A, cc, rfl, hA⟩ := hp
  clear hA hf hR
  rw [List.length_map] at HP ON RN ⊢
  obtain ⟨m, hme⟩ : ∃ m, l.length = m := ⟨_, rfl⟩
  rw [hme] at hm HP ON RN ⊢
  clear hme
  have t1 : decide (4 < m) = false := by simp; omega
  go_enter Try.func8, Try.ntmps8
  go_wp2_with fail
  refine ON.out.mono ?_
  rintro e w1 ⟨rfl, hb1⟩
  have B1 := Lib.hid (below_on (below_al w (.cells #[.slice A m cc] 38)) hb1)
  have R1 := Lib.hid (RN.out w1 B1.out)
  clear hb1
  go_wp2_with fail
  refine R1.out.mono ?_
  rintro e w2 ⟨rfl, hb2⟩
  have B2 := Lib.hid (below_on (below_on B1.out (below_al _ _)) hb2)
  clear hb2
  go_wp2_with (go_at_call 10; refine (alive_any _).mono ?_; rintro e w6 ⟨rfl, hb6⟩)
  go_ret
  exact ⟨rfl, below_on B2.out hb6⟩

set_option maxRecDepth 100000 in
set_option maxHeartbeats 1000000 in
theorem alone_any (buf : Int) (v : Value) (l : List Opn) (w : World) (hp : Recs w 4 v (l.map opL)) :
    Calls Try.prog 8 #[v, .int .i64 buf] w fun e w' => e = .returned (.bool true) ∧ Below w.heap.size w w' := by
  by_cases hm : l.length ≤ 4
  · by_cases hR : RightS [l] buf
    · obtain ⟨N, rfl⟩ := Int.eq_ofNat_of_zero_le hR.b0
      exact alone_main N v l w hp hm hR
    · exact alone_no buf v l w hp hm hR
  · obtain ⟨A, cc, rfl, hA⟩ := hp
    clear hA
    rw [List.length_map]
    obtain ⟨m, hme⟩ : ∃ m, l.length = m := ⟨_, rfl⟩
    rw [hme] at hm ⊢
    clear hme
    have t1 : decide (4 < m) = true := by simp; omega
    go_enter Try.func8, Try.ntmps8
    go_wp2_with (go_at_call 10; refine (alive_any _).mono ?_; rintro e w6 ⟨rfl, hb6⟩)
    go_ret
    exact ⟨rfl, hb6⟩

theorem alone_recs (buf : Int) (v : Value) (R : List (List Int)) (w : World) (hp : Recs w 4 v R) :
    Calls Try.prog 8 #[v, .int .i64 buf] w fun e w' => e = .returned (.bool true) ∧ Below w.heap.size w w' :=
  alone_any buf v (R.map opOf) w (recs_ops hp)

#print axioms alone_recs
end Go.Proofs.Ythagbcdpnijifaa
