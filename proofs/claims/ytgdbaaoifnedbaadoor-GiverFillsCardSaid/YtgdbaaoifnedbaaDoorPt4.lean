/-
  Layer 14 (port): attempt; calls through the interface.
  Conditions: those that each theorem states.
-/
import Derived.Test.YtgdbaaoifnedbaaDoorPt3
import Derived.Defers
import Derived.Recover
namespace Go.Proofs.YtgdbaaoifnedbaaDoor
open Go.ChangeShapes Go.WideShapes Go.ChangeAt Go.RowKit

set_option maxRecDepth 100000 in
theorem caught14 (w : World) :
    CallsD Tryd.prog 155 #[] .returning w fun e u' w' => e = .returned (.tuple #[]) ∧ u' = .returning ∧ w' = w := by
  refine callsD_of_wpS Tryd.func155 rfl fun c₀ cs hu => ?_
  apply wpS_region
  simp [wpOpsS, go_sem, recoverD, hu, Tryd.ntmps155]
  cases c₀
  simp_all [bodyPostS, results, Tryd.results155]

set_option maxRecDepth 100000 in
theorem attempt14 (G : Nat) (caps : Array Value) (w : World) (R : World → Prop) (hG : ∀ W, (callFunc G caps).run Tryd.prog W = .ok (.enter G caps) W) (h : Calls Tryd.prog G caps w fun e w' => e = .returned (.tuple #[]) ∧ R w') :
    Calls Tryd.prog 148 #[.func (.func G) #[] caps] w fun e w' => e = .returned (.tuple #[]) ∧ R w' := by
  go_enter_defers Tryd.func148, Tryd.ntmps148
  go_wp2_with fail
  refine h.mono ?_
  rintro e w' ⟨rfl, hR⟩
  go_wp2_with fail
  refine leaves_cons (f := 155) (args := #[]) (by simp) (by simp [go_sem]) ?_
  refine (caught14 _).mono ?_
  rintro e u' w'' ⟨rfl, rfl, rfl⟩
  simp [Leaves, settle, results, Tryd.results148, go_sem]
  exact hR

section
variable {p a b t z y x : Nat} {k : Value} {V E K : List Int} {w : World}

/-- The port that a Trace forwards to. -/
def face14 (p : Nat) : Value := .iface 54 (.pointer (some ⟨p, 0, none⟩))

set_option maxRecDepth 100000 in
set_option maxHeartbeats 1000000 in
theorem fenceC14 (h1 : w.cell? ⟨z, 0, none⟩ = some (.pointer (some ⟨t, 0, none⟩))) (h2 : w.cell? ⟨t, 0, none⟩ = some (face14 p)) :
    Calls Tryd.prog 151 #[.pointer (some ⟨z, 0, none⟩)] w fun e w' => e = .returned (.tuple #[]) ∧ w' = w := by
  unfold face14 at h2
  go_enter Tryd.func151, Tryd.ntmps151
  go_wp2
  go_end0
  exact ⟨rfl, rfl⟩

set_option maxRecDepth 100000 in
set_option maxHeartbeats 2000000 in
theorem kickC14 (i : Int) (h1 : w.cell? ⟨z, 0, none⟩ = some (.pointer (some ⟨t, 0, none⟩))) (h2 : w.cell? ⟨t, 0, none⟩ = some (face14 p)) (h3 : w.cell? ⟨y, 0, none⟩ = some (.int .i64 i)) (r : PlainAt w p a b k V E K) (hl : K.length ≤ 65536) :
    Calls Tryd.prog 152 #[.pointer (some ⟨z, 0, none⟩), .pointer (some ⟨y, 0, none⟩)] w (KickP p a b k V E (K ++ [i]) w) := by
  unfold face14 at h2
  have KD := Lib.hid (fun d => kick14_any i (w.drewN d) (r.below (below_q w d)) hl)
  clear r
  go_enter Tryd.func152, Tryd.ntmps152
  go_wp2
  go_region_with (go_at_call 142; refine (KD.out _).mono ?_; rintro e w2 ⟨k2, rfl, r2, o2, hk2⟩)
  all_goals (go_end0; exact ⟨k2, rfl, r2, (Only.of_below (below_q w _) _).trans o2, hk2⟩)

set_option maxRecDepth 100000 in
set_option maxHeartbeats 2000000 in
theorem loadC14 (i v : Int) (h1 : w.cell? ⟨z, 0, none⟩ = some (.pointer (some ⟨t, 0, none⟩))) (h2 : w.cell? ⟨t, 0, none⟩ = some (face14 p)) (h3 : w.cell? ⟨y, 0, none⟩ = some (.int .i64 i)) (r : PlainAt w p a b k V E K) (hx : Row w x 3 [.int .i64 v]) :
    Calls Tryd.prog 153 #[.pointer (some ⟨z, 0, none⟩), .pointer (some ⟨y, 0, none⟩), .pointer (some ⟨x, 0, none⟩)] w fun e w' => e = .returned (.tuple #[]) ∧ Row w' x 3 [.int .i64 (nth14 V i)] ∧ Only (· = x) w w' := by
  unfold face14 at h2
  have KD := Lib.hid (fun d => load14_any i (w.drewN d) (r.below (below_q w d)))
  have x0 := hx.cell 0
  have x1 := hx.soft 0
  simp only [List.getElem?_cons_zero] at x0
  have HX := Lib.hid hx
  clear r hx
  go_enter Tryd.func153, Tryd.ntmps153
  go_wp2
  go_region_with (go_at_call 55; refine (KD.out _).mono ?_; rintro e w2 ⟨rfl, rfl⟩)
  all_goals (go_end0; exact ⟨rfl, HX.out.put 0 _, (((Only.refl (· = x) w).drewN _).setCell (p := ⟨x, 0, none⟩) (.inl rfl) _)⟩)

set_option maxRecDepth 100000 in
set_option maxHeartbeats 2000000 in
theorem epochC14 (i v : Int) (h1 : w.cell? ⟨z, 0, none⟩ = some (.pointer (some ⟨t, 0, none⟩))) (h2 : w.cell? ⟨t, 0, none⟩ = some (face14 p)) (h3 : w.cell? ⟨y, 0, none⟩ = some (.int .i64 i)) (r : PlainAt w p a b k V E K) (hx : Row w x 3 [.int .i64 v]) :
    Calls Tryd.prog 149 #[.pointer (some ⟨z, 0, none⟩), .pointer (some ⟨y, 0, none⟩), .pointer (some ⟨x, 0, none⟩)] w fun e w' => e = .returned (.tuple #[]) ∧ Row w' x 3 [.int .i64 (nth14 E i)] ∧ Only (· = x) w w' := by
  unfold face14 at h2
  have KD := Lib.hid (fun d => epoch14_any i (w.drewN d) (r.below (below_q w d)))
  have x0 := hx.cell 0
  have x1 := hx.soft 0
  simp only [List.getElem?_cons_zero] at x0
  have HX := Lib.hid hx
  clear r hx
  go_enter Tryd.func149, Tryd.ntmps149
  go_wp2
  go_region_with (go_at_call 140; refine (KD.out _).mono ?_; rintro e w2 ⟨rfl, rfl⟩)
  all_goals (go_end0; exact ⟨rfl, HX.out.put 0 _, (((Only.refl (· = x) w).drewN _).setCell (p := ⟨x, 0, none⟩) (.inl rfl) _)⟩)
end

#print axioms attempt14
#print axioms loadC14
end Go.Proofs.YtgdbaaoifnedbaaDoor
