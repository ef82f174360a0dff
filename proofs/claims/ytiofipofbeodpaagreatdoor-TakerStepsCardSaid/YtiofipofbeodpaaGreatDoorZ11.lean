/-
  Texts merged, with what one theorem needs of them.
  Conditions: those that each theorem states.
-/
import Derived.Test.YtiofipofbeodpaaGreatDoorRows
import Derived.Test.YtiofipofbeodpaaGreatDoorZ1
import Derived.Test.YtiofipofbeodpaaGreatDoorZ2
import Derived.Test.YtiofipofbeodpaaGreatDoorZ3
import Derived.Test.YtiofipofbeodpaaGreatDoorZ7
import Derived.Test.YtiofipofbeodpaaGreatDoorZ8
import Derived.Test.YtiofipofbeodpaaGreatDoorZ9
import Derived.Test.YtiofipofbeodpaaGreatDoorZ10
import Derived.Below
import Derived.BigQuiet
import Derived.Deep.AppendLies
import Derived.Deep.DeepMust
import Derived.Deep.Draws
import Derived.Deep.OwnRows
import Derived.Deep.QuietTactic
import Derived.Deep.RegionHeld3
import Derived.Defers
import Derived.Handy
import Derived.IntWalk
import Derived.Laws.BitsLemmas
import Derived.Laws.CopyOwn
import Derived.Laws.OwnMore
import Derived.Laws.Rows
import Derived.Lib.Hide
import Derived.Lib.SliceRun
import Derived.Maps.AppendAt
import Derived.OpenShut
import Derived.ProofKit
import Derived.Recover
import Derived.RegionTactic
import Derived.WalkKit
namespace Go.Proofs.YtiofipofbeodpaaGreatDoor

section
open Go.ChangeShapes Go.WideShapes Go.ChangeAt Go.RowKit
set_option maxRecDepth 100000 in
theorem caught14 (w : World) :
    CallsD Tryz.prog 121 #[] .returning w fun e u' w' => e = .returned (.tuple #[]) ∧ u' = .returning ∧ w' = w := by
  refine callsD_of_wpS Tryz.func121 rfl fun c₀ cs hu => ?_
  apply wpS_region
  simp [wpOpsS, go_sem, recoverD, hu, Tryz.ntmps121]
  cases c₀
  simp_all [bodyPostS, results, Tryz.results121]
set_option maxRecDepth 100000 in
theorem attempt14 (G : Nat) (caps : Array Value) (w : World) (R : World → Prop) (hG : ∀ W, (callFunc G caps).run Tryz.prog W = .ok (.enter G caps) W) (h : Calls Tryz.prog G caps w fun e w' => e = .returned (.tuple #[]) ∧ R w') :
    Calls Tryz.prog 115 #[.func (.func G) #[] caps] w fun e w' => e = .returned (.tuple #[]) ∧ R w' := by
  go_enter_defers Tryz.func115, Tryz.ntmps115
  go_wp2_with fail
  refine h.mono ?_
  rintro e w' ⟨rfl, hR⟩
  go_wp2_with fail
  refine leaves_cons (f := 121) (args := #[]) (by simp) (by simp [go_sem]) ?_
  refine (caught14 _).mono ?_
  rintro e u' w'' ⟨rfl, rfl, rfl⟩
  simp [Leaves, settle, results, Tryz.results115, go_sem]
  exact hR
section
variable {p a b t z y x : Nat} {k : Value} {V E K : List Int} {w : World}
/-- The port that a Trace forwards to. -/
def face14 (p : Nat) : Value := .iface 57 (.pointer (some ⟨p, 0, none⟩))
set_option maxRecDepth 100000 in
set_option maxHeartbeats 1000000 in
theorem fenceC14 (h1 : w.cell? ⟨z, 0, none⟩ = some (.pointer (some ⟨t, 0, none⟩))) (h2 : w.cell? ⟨t, 0, none⟩ = some (face14 p)) :
    Calls Tryz.prog 118 #[.pointer (some ⟨z, 0, none⟩)] w fun e w' => e = .returned (.tuple #[]) ∧ w' = w := by
  unfold face14 at h2
  go_enter Tryz.func118, Tryz.ntmps118
  go_wp2
  go_end0
  exact ⟨rfl, rfl⟩
set_option maxRecDepth 100000 in
set_option maxHeartbeats 2000000 in
theorem loadC14 (i v : Int) (h1 : w.cell? ⟨z, 0, none⟩ = some (.pointer (some ⟨t, 0, none⟩))) (h2 : w.cell? ⟨t, 0, none⟩ = some (face14 p)) (h3 : w.cell? ⟨y, 0, none⟩ = some (.int .i64 i)) (r : PlainAt w p a b k V E K) (hx : Row w x 3 [.int .i64 v]) :
    Calls Tryz.prog 119 #[.pointer (some ⟨z, 0, none⟩), .pointer (some ⟨y, 0, none⟩), .pointer (some ⟨x, 0, none⟩)] w fun e w' => e = .returned (.tuple #[]) ∧ Row w' x 3 [.int .i64 (nth14 V i)] ∧ Only (· = x) w w' := by
  unfold face14 at h2
  have KD := Lib.hid (fun d => load14_any i (w.drewN d) (r.below (below_q w d)))
  have x0 := hx.cell 0
  have x1 := hx.soft 0
  simp only [List.getElem?_cons_zero] at x0
  have HX := Lib.hid hx
  clear r hx
  go_enter Tryz.func119, Tryz.ntmps119
  go_wp2
  go_region_with (go_at_call 107; refine (KD.out _).mono ?_; rintro e w2 ⟨rfl, rfl⟩)
  all_goals (go_end0; exact ⟨rfl, HX.out.put 0 _, (((Only.refl (· = x) w).drewN _).setCell (p := ⟨x, 0, none⟩) (.inl rfl) _)⟩)
set_option maxRecDepth 100000 in
set_option maxHeartbeats 2000000 in
theorem epochC14 (i v : Int) (h1 : w.cell? ⟨z, 0, none⟩ = some (.pointer (some ⟨t, 0, none⟩))) (h2 : w.cell? ⟨t, 0, none⟩ = some (face14 p)) (h3 : w.cell? ⟨y, 0, none⟩ = some (.int .i64 i)) (r : PlainAt w p a b k V E K) (hx : Row w x 3 [.int .i64 v]) :
    Calls Tryz.prog 116 #[.pointer (some ⟨z, 0, none⟩), .pointer (some ⟨y, 0, none⟩), .pointer (some ⟨x, 0, none⟩)] w fun e w' => e = .returned (.tuple #[]) ∧ Row w' x 3 [.int .i64 (nth14 E i)] ∧ Only (· = x) w w' := by
  unfold face14 at h2
  have KD := Lib.hid (fun d => epoch14_any i (w.drewN d) (r.below (below_q w d)))
  have x0 := hx.cell 0
  have x1 := hx.soft 0
  simp only [List.getElem?_cons_zero] at x0
  have HX := Lib.hid hx
  clear r hx
  go_enter Tryz.func116, Tryz.ntmps116
  go_wp2
  go_region_with (go_at_call 105; refine (KD.out _).mono ?_; rintro e w2 ⟨rfl, rfl⟩)
  all_goals (go_end0; exact ⟨rfl, HX.out.put 0 _, (((Only.refl (· = x) w).drewN _).setCell (p := ⟨x, 0, none⟩) (.inl rfl) _)⟩)
end
end

section
open Go.ChangeShapes Go.WideShapes Go.ChangeAt Go.RowKit
set_option maxRecDepth 100000 in
set_option maxHeartbeats 4000000 in
theorem storeC14 {p a b t z y y2 : Nat} {k : Value} {V E K : List Int} {w : World} (i u : Int) (h1 : w.cell? ⟨z, 0, none⟩ = some (.pointer (some ⟨t, 0, none⟩))) (h2 : w.cell? ⟨t, 0, none⟩ = some (face14 p)) (h3 : w.cell? ⟨y, 0, none⟩ = some (.int .i64 i)) (h4 : w.cell? ⟨y2, 0, none⟩ = some (.int .i64 u)) (r : PlainAt w p a b k V E K) :
    Calls Tryz.prog 120 #[.pointer (some ⟨z, 0, none⟩), .pointer (some ⟨y, 0, none⟩), .pointer (some ⟨y2, 0, none⟩)] w fun e w' => e = .returned (.tuple #[]) ∧ PlainAt w' p a b k (put14 V i (u % 65536)) E K ∧ Only (· = a) w w' := by
  unfold face14 at h2
  have KD := Lib.hid (fun d => store14_any i u (w.drewN d) (r.below (below_q w d)))
  clear r
  go_enter Tryz.func120, Tryz.ntmps120
  go_wp2
  go_region_with (go_at_call 108; refine (KD.out _).mono ?_; rintro e w2 ⟨rfl, r2, o2⟩)
  all_goals (go_end0; exact ⟨rfl, r2, (Only.of_below (below_q w _) _).trans o2⟩)
end

end Go.Proofs.YtiofipofbeodpaaGreatDoor
