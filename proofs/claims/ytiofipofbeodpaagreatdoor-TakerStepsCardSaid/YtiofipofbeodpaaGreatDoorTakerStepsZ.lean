/-
  The given statement on the law TakerSteps: for every input it returns true, and every argument reads behind the call as it read before.
  Conditions: the row's own: the listed package-level variable starts as the program's text lays it; the card at the end ties that to the text, and asks nothing besides.
-/
import Derived.Test.YtiofipofbeodpaaGreatDoorZ1
import Derived.Test.YtiofipofbeodpaaGreatDoorZ2
import Derived.Test.YtiofipofbeodpaaGreatDoorZ3
import Derived.Test.YtiofipofbeodpaaGreatDoorZ4
import Derived.Test.YtiofipofbeodpaaGreatDoorZ5
import Derived.Test.YtiofipofbeodpaaGreatDoorZ6
import Derived.Test.YtiofipofbeodpaaGreatDoorZ7
import Derived.Test.YtiofipofbeodpaaGreatDoorZ8
import Derived.Test.YtiofipofbeodpaaGreatDoorZ9
import Derived.Test.YtiofipofbeodpaaGreatDoorZ10
import Derived.Test.YtiofipofbeodpaaGreatDoorZ11
import Derived.Test.YtiofipofbeodpaaGreatDoorZ12
import Derived.Test.YtiofipofbeodpaaGreatDoorZ13
import Derived.Test.YtiofipofbeodpaaGreatDoorZ14
import Derived.Test.YtiofipofbeodpaaGreatDoorZ15
import Derived.Test.YtiofipofbeodpaaGreatDoorZ16
import Derived.Test.YtiofipofbeodpaaGreatDoorZ17
import Derived.Test.YtiofipofbeodpaaGreatDoorZ18
import Derived.Test.YtiofipofbeodpaaGreatDoorZ19
import Derived.Test.YtiofipofbeodpaaGreatDoorZ20
import Derived.Test.YtiofipofbeodpaaGreatDoorZ21
import Derived.Test.YtiofipofbeodpaaGreatDoorZ22
import Derived.Test.YtiofipofbeodpaaGreatDoorZ23
import Derived.Test.YtiofipofbeodpaaGreatDoorZ24
import Derived.Test.YtiofipofbeodpaaGreatDoorZ25
import Derived.Test.YtiofipofbeodpaaGreatDoorZ26
import Derived.Test.YtiofipofbeodpaaGreatDoorZ27
import Derived.Test.YtiofipofbeodpaaGreatDoorZ28
import Derived.Test.YtiofipofbeodpaaGreatDoorZ29
import Derived.Test.YtiofipofbeodpaaGreatDoorZ30
import Derived.Test.YtiofipofbeodpaaGreatDoorCards
import Derived.Test.YtiofipofbeodpaaGreatDoorTie
import Derived.SevenTiedAt
import Derived.LaidMore
import Derived.Stop.Joined
namespace Go.Proofs.YtiofipofbeodpaaGreatDoor.takerSteps
open Go.ChangeShapes Go.WideShapes Go.ChangeAt Go.RowKit Go.Deep Go.Joins

theorem own : ownKnob Tryz.prog.godebug = none := by kernel_rfl
theorem laid : laidOutB Tryz.prog = true := by kernel_rfl

/-- The row's list. -/
abbrev laidL : List (String × DataW Unit) := [("switchyard/plot.fields", Rows.laid_switchyard_plot_fields)]

/-- The heap that the door's own run leaves meets the condition: closed facts. -/
theorem door_met (os : Os) (args : Array Value) : laidMetH Tryz.prog laidL ((World.doorLaid Tryz.prog 22 os).forCall (fun _ _ => 0) ⟨#[], args, []⟩).memory :=
  laidMetH_of_parts3 (fuel := 8) (laidMet_of_run' 8 (by kernel_rfl) (by kernel_rfl)) (by kernel_rfl) (by kernel_rfl)

set_option linter.unusedVariables false in
set_option maxRecDepth 100000 in
set_option maxHeartbeats 1000000 in
theorem lifted (os : Os) (started : os.Started) (H : Type) (enc : TypeId × Value → H) :
    ReturnsInHanded {} Tryz.checked os 3 .any (fun w args => (Rows.takerStepsSpec.pre enc Tryz.prog Tryz.f3 [] false w args ∧ laidMetH Tryz.prog laidL w) ∧ sizedMet enc Tryz.prog Tryz.f3 (OpenSpec.ofChange Rows.takerStepsSpec) false w args) (Rows.takerStepsSpec.post enc Tryz.prog Tryz.f3 false true false false) := by
  refine returnsInHanded_of_change_and (C := Tryz.checked) (X := fun w _ => laidMetH Tryz.prog laidL w) (fun _ _ _ hh h => h.of_heap hh) own started (by kernel_rfl) Tryz.func3
    (ChangeSpec.witness_shaped (enc := enc) (C := Tryz.checked) (os := os) (X := fun w _ => laidMetH Tryz.prog laidL w) false (World.doorLaid Tryz.prog 22 os) #[.agg #[.int .i64 0, .int .i64 0, .int .i64 0, .int .i64 0, .int .i64 0], .slice none 0 0] 8 rfl (World.shaped_of_RefB (by kernel_rfl) (by kernel_rfl)) (by kernel_rfl) (by kernel_rfl) (by kernel_rfl) (door_met os _)) ?_
  intro W base args ds gs before hval0 hW _ hsz hL _
  have hval : ∀ (j : Nat) t v, Tryz.f3.params[j]? = some t → args[j]? = some v → Value.okWide Tryz.prog W .any base t v := hval0
  have hW' := hW
  obtain ⟨p, q, hA0, hV, rfl, hfz, hnd⟩ := hW
  have hA : DataW.TrodAll enc Tryz.prog W 0 (fun _ => true) true Tryz.f3.params.toList args.toList ds p := hA0
  have hK := hA
  have hlt : ∀ x ∈ p, x.block < W.heap.size := fun x hx => hW'.lt x (List.mem_append_left _ hx)
  rw [Tryz.params3] at hA hval
  obtain ⟨v0, vs0, d0, ds0, p0, q0, hargs, rfl, rfl, h0, r0⟩ := trodAll_cons hA
  obtain ⟨v1, vs1, d1, ds1, p1, q1, rfl, rfl, rfl, h1, r1⟩ := trodAll_cons r0
  obtain ⟨rfl, rfl, rfl⟩ := trodAll_nil r1
  obtain rfl : args = #[v0, v1] := by cases args; simp_all
  obtain ⟨rfl, rfl⟩ := trodVars_none hV
  obtain ⟨z0, rfl, hl0, hb0⟩ := open_rec2 Tryz.underlying25 base17_ints (hval 0 25 v0 rfl rfl) h0
  obtain ⟨a0_0, a0_1, a0_2, a0_3, a0_4, rfl⟩ := list5 (l := z0) hl0
  obtain ⟨R1, hR1, hm1⟩ := open_recs Tryz.underlying26 Tryz.underlying41 (by kernel_rfl) (by kernel_rfl) (by kernel_rfl) (by decide) (hval 1 26 v1 rfl rfl) h1
  clear hA0 hval0
  refine (takerSteps_any a0_0 a0_1 a0_2 a0_3 a0_4 v1 R1 W (tab_of_laid rfl hL) hR1).mono fun e W' ⟨he, hg⟩ => ?_
  subst he
  refine ⟨_, rfl, law_post (pv := []) hW' (fun _ _ _ => (trodAll_cons_mk (shut_bool Tryz.underlying4 _) trodAll_mk0)) (fun sp hsp => args_stay laid hg ?_ hK hlt (fun x hx => hsp x (List.mem_append_left _ hx))) (fun _ _ => rfl) rfl hg (ok_one (by kernel_rfl) rfl (okWide_bool_mk Tryz.underlying4 _))⟩
  rw [Tryz.params3]
  intro t ht
  have key : ∀ t ∈ ([25, 26] : List TypeId), Tryz.prog.readableRec t = true ∧ t < Tryz.prog.types.size := by
    intro t ht
    simp only [List.mem_cons, List.not_mem_nil, or_false] at ht
    rcases ht with rfl | rfl <;> exact ⟨by kernel_rfl, of_decide_eq_true (by kernel_rfl)⟩
  exact key t (by simpa using ht)

theorem over : Rows.takerStepsRow.holds Tryz.pinned (OpenSpec.ofChange Rows.takerStepsSpec) :=
  OpenClaim.holds_of_wide 3 Tryz.f3 rfl rfl rfl rfl rfl rfl rfl ⟨rfl, rfl, rfl, rfl, rfl⟩ rfl rfl rfl rfl rfl (by kernel_rfl) Tryz.func3 (by kernel_rfl)
    (of_decide_eq_true (by kernel_rfl)) (by unfold Func.isWrapper; first | (rw [if_pos (by decide +kernel)]; kernel_rfl) | (rw [if_neg (by decide +kernel)]; exact ⟨rfl, rfl⟩))
    (fun os started H enc _ => lifted os started H enc)

theorem proved : Rows.TakerStepsSaid := over

/-- THE TIED CARD. -/
theorem card : Rows.TakerStepsCardSaid :=
  Claim7.holds_tied_plain_at .later [] [.wider] true _ false
    proved (fun _ h => by cases h) (by kernel_rfl) (fun _ h => by cases h) takerSteps_row_tie rfl ⟨rfl, rfl⟩ (by kernel_rfl) rfl
    (fun f fn hf hfn => by
      obtain rfl : f = 3 := Option.some.inj ((show Tryz.prog.funcNamed "switchyard/switchyardlaw17.TakerSteps" = some 3 by kernel_rfl).symm.trans hf) |>.symm
      obtain rfl : fn = Tryz.f3 := (Option.some.inj (Tryz.func3.symm.trans hfn)).symm
      exact ⟨by kernel_rfl, fun j t ht => by
        rw [Tryz.params3] at ht
        have hm : t ∈ [25, 26] := by simpa using Array.mem_of_getElem? ht
        have hall : ([25, 26].all fun u => !Tryz.prog.wantsStandIn u) = true := by kernel_rfl
        exact (show Tryz.prog.wantsStandIn t = false by simpa using List.all_eq_true.1 hall t hm)⟩)
    (by kernel_rfl)
#print axioms card
end Go.Proofs.YtiofipofbeodpaaGreatDoor.takerSteps
