/-
  Layer 11 (gate): Up, Epoch, Hold, Start, Link.
  Conditions: those that each theorem states.
-/
import Derived.Test.YtaimhaokielhgaaGt
namespace Go.Proofs.Ytaimhaokielhgaa
open Go.ChangeShapes Go.WideShapes Go.ChangeAt Go.RowKit

set_option maxRecDepth 100000 in
set_option maxHeartbeats 400000 in
theorem up11_nil (core : Int) (w : World) :
    Calls Try.prog 16 #[.pointer none, .int .i64 core] w fun e w' => e = .returned (.bool false) ∧ w = w' := by
  have k1 := Lib.hid (check11_nil core w)
  go_enter Try.func16, Try.ntmps16
  go_wp2_with fail
  refine k1.out.mono ?_
  rintro e w' ⟨rfl, rfl⟩
  go_wp2
  go_ret
  exact ⟨rfl, rfl⟩

set_option maxRecDepth 100000 in
set_option maxHeartbeats 1000000 in
theorem up11_any (g : Nat) (l : List (Int × Bool)) (core : Int) (w : World) (r : GateAt w g l) :
    Calls Try.prog 16 #[ptr g, .int .i64 core] w fun e w' => e = .returned (.bool (upB l core)) ∧ w = w' := by
  have k1 := Lib.hid (check11_any g l core w r)
  unfold ptr at k1 ⊢
  rcases cr_cases l core with ⟨h, h0⟩ | ⟨k, e, b, rfl, hk, h⟩
  · rw [show ckG l core = 3 from by unfold ckG; rw [h]] at k1
    rw [show upB l core = false from by unfold upB; rw [h]]
    clear h h0 r
    go_enter Try.func16, Try.ntmps16
    go_wp2_with fail
    refine k1.out.mono ?_
    rintro e w' ⟨rfl, rfl⟩
    go_wp2
    go_ret
    exact ⟨rfl, rfl⟩
  · rw [show ckG l k = 0 from by unfold ckG; rw [cr_nat, h]] at k1
    rw [show upB l k = !b from by unfold upB; rw [cr_nat, h]]
    have hc : w.cell? ⟨g, 1 + k, none⟩ = some (.bool b) := (r.row.cell (1 + k)).trans (gcells_h r.c8 h)
    have h8 : k < 8 := by have := r.c8; omega
    clear h hk r
    go_enter Try.func16, Try.ntmps16
    go_wp2_with fail
    refine k1.out.mono ?_
    rintro e w' ⟨rfl, rfl⟩
    go_wp2
    go_ret
    exact ⟨rfl, rfl⟩

set_option maxRecDepth 100000 in
set_option maxHeartbeats 400000 in
theorem epoch11_nil (core : Int) (w : World) :
    Calls Try.prog 14 #[.pointer none, .int .i64 core] w fun e w' => e = .returned (.tuple #[.int .i64 0, .int .i64 1]) ∧ w = w' := by
  have k1 := Lib.hid (check11_nil core w)
  go_enter Try.func14, Try.ntmps14
  go_wp2_with fail
  refine k1.out.mono ?_
  rintro e w' ⟨rfl, rfl⟩
  go_wp2
  go_ret2
  exact ⟨rfl, rfl⟩

set_option maxRecDepth 100000 in
set_option maxHeartbeats 1000000 in
theorem epoch11_any (g : Nat) (l : List (Int × Bool)) (core : Int) (w : World) (r : GateAt w g l) :
    Calls Try.prog 14 #[ptr g, .int .i64 core] w fun e w' => e = .returned (.tuple #[.int .i64 (epV l core), .int .i64 (ckG l core)]) ∧ w = w' := by
  have k1 := Lib.hid (check11_any g l core w r)
  unfold ptr at k1 ⊢
  rcases cr_cases l core with ⟨h, h0⟩ | ⟨k, e, b, rfl, hk, h⟩
  · rw [show ckG l core = 3 from by unfold ckG; rw [h]] at k1 ⊢
    rw [show epV l core = 0 from by unfold epV; rw [h]]
    clear h h0 r
    go_enter Try.func14, Try.ntmps14
    go_wp2_with fail
    refine k1.out.mono ?_
    rintro e w' ⟨rfl, rfl⟩
    go_wp2
    go_ret2
    exact ⟨rfl, rfl⟩
  · rw [show ckG l k = 0 from by unfold ckG; rw [cr_nat, h]] at k1 ⊢
    rw [show epV l k = e from by unfold epV; rw [cr_nat, h]]
    have hc : w.cell? ⟨g, 9 + k, none⟩ = some (.int .i64 e) := (r.row.cell (9 + k)).trans (gcells_e r.c8 h)
    have h8 : k < 8 := by have := r.c8; omega
    clear h hk r
    go_enter Try.func14, Try.ntmps14
    go_wp2_with fail
    refine k1.out.mono ?_
    rintro e w' ⟨rfl, rfl⟩
    go_wp2
    go_ret2
    exact ⟨rfl, rfl⟩

/-- What a writing call leaves: its answer, the new cores. -/
def GateP (g : Nat) (l' : List (Int × Bool)) (v : Value) (w : World) (e : Ending) (w' : World) : Prop := e = .returned v ∧ GateAt w' g l' ∧ Only (· = g) w w'

set_option maxRecDepth 100000 in
set_option maxHeartbeats 400000 in
theorem hold11_nil (core : Int) (w : World) :
    Calls Try.prog 22 #[.pointer none, .int .i64 core] w fun e w' => e = .returned (.int .i64 1) ∧ w = w' := by
  have k1 := Lib.hid (check11_nil core w)
  go_enter Try.func22, Try.ntmps22
  go_wp2_with fail
  refine k1.out.mono ?_
  rintro e w' ⟨rfl, rfl⟩
  go_wp2
  go_ret
  exact ⟨rfl, rfl⟩

set_option maxRecDepth 100000 in
set_option maxHeartbeats 400000 in
theorem start11_nil (core : Int) (w : World) :
    Calls Try.prog 23 #[.pointer none, .int .i64 core] w fun e w' => e = .returned (.int .i64 1) ∧ w = w' := by
  have k1 := Lib.hid (check11_nil core w)
  go_enter Try.func23, Try.ntmps23
  go_wp2_with fail
  refine k1.out.mono ?_
  rintro e w' ⟨rfl, rfl⟩
  go_wp2
  go_ret
  exact ⟨rfl, rfl⟩

set_option maxRecDepth 100000 in
set_option maxHeartbeats 1000000 in
theorem hold11_any (g : Nat) (l : List (Int × Bool)) (core : Int) (w : World) (r : GateAt w g l) :
    Calls Try.prog 22 #[ptr g, .int .i64 core] w (GateP g (holdL l core) (.int .i64 (holdE l core)) w) := by
  have k1 := Lib.hid (check11_any g l core w r)
  unfold ptr at k1 ⊢
  rcases cr_cases l core with ⟨h, h0⟩ | ⟨k, e, b, rfl, hk, h⟩
  · rw [show ckG l core = 3 from by unfold ckG; rw [h]] at k1
    rw [show holdL l core = l from by unfold holdL; rw [h], show holdE l core = 3 from by unfold holdE; rw [h]]
    have R := Lib.hid r
    clear h h0 r
    go_enter Try.func22, Try.ntmps22
    go_wp2_with fail
    refine k1.out.mono ?_
    rintro e w' ⟨rfl, rfl⟩
    go_wp2
    go_ret
    exact ⟨rfl, R.out, Only.refl _ _⟩
  · rw [show ckG l k = 0 from by unfold ckG; rw [cr_nat, h]] at k1
    have hc : w.cell? ⟨g, 1 + k, none⟩ = some (.bool b) := (r.row.cell (1 + k)).trans (gcells_h r.c8 h)
    have hs := r.row.soft (1 + k)
    have h8 : k < 8 := by have := r.c8; omega
    cases b with
    | true =>
      rw [show holdL l k = l from by unfold holdL; rw [cr_nat, h], show holdE l k = 11 from by unfold holdE; rw [cr_nat, h]]
      have R := Lib.hid r
      clear h hk r
      go_enter Try.func22, Try.ntmps22
      go_wp2_with fail
      refine k1.out.mono ?_
      rintro e w' ⟨rfl, rfl⟩
      go_wp2
      go_ret
      exact ⟨rfl, R.out, Only.refl _ _⟩
    | false =>
      rw [show holdL l k = l.set k (e, true) from by unfold holdL; rw [cr_nat, h]; rfl, show holdE l k = 0 from by unfold holdE; rw [cr_nat, h]]
      have R := Lib.hid (r.puth h true)
      clear h hk r
      go_enter Try.func22, Try.ntmps22
      go_wp2_with fail
      refine k1.out.mono ?_
      rintro e w' ⟨rfl, rfl⟩
      go_wp2
      go_ret
      exact ⟨rfl, R.out, only_putG _ _ _ _⟩

set_option maxRecDepth 100000 in
set_option maxHeartbeats 2000000 in
theorem start11_any (g : Nat) (l : List (Int × Bool)) (core : Int) (w : World) (r : GateAt w g l) :
    Calls Try.prog 23 #[ptr g, .int .i64 core] w (GateP g (startL l core) (.int .i64 (startE l core)) w) := by
  have k1 := Lib.hid (check11_any g l core w r)
  unfold ptr at k1 ⊢
  rcases cr_cases l core with ⟨h, h0⟩ | ⟨k, e, b, rfl, hk, h⟩
  · rw [show ckG l core = 3 from by unfold ckG; rw [h]] at k1
    rw [show startL l core = l from by unfold startL; rw [h], show startE l core = 3 from by unfold startE; rw [h]]
    have R := Lib.hid r
    clear h h0 r
    go_enter Try.func23, Try.ntmps23
    go_wp2_with fail
    refine k1.out.mono ?_
    rintro e w' ⟨rfl, rfl⟩
    go_wp2
    go_ret
    exact ⟨rfl, R.out, Only.refl _ _⟩
  · rw [show ckG l k = 0 from by unfold ckG; rw [cr_nat, h]] at k1
    have hc : w.cell? ⟨g, 1 + k, none⟩ = some (.bool b) := (r.row.cell (1 + k)).trans (gcells_h r.c8 h)
    have hs := r.row.soft (1 + k)
    have h8 : k < 8 := by have := r.c8; omega
    cases b with
    | false =>
      rw [show startL l k = l from by unfold startL; rw [cr_nat, h], show startE l k = 13 from by unfold startE; rw [cr_nat, h]]
      have R := Lib.hid r
      clear h hk r
      go_enter Try.func23, Try.ntmps23
      go_wp2_with fail
      refine k1.out.mono ?_
      rintro e w' ⟨rfl, rfl⟩
      go_wp2
      go_ret
      exact ⟨rfl, R.out, Only.refl _ _⟩
    | true =>
      rw [show startL l k = l.set k (addW e 1, false) from by unfold startL; rw [cr_nat, h]; rfl, show startE l k = 0 from by unfold startE; rw [cr_nat, h]]
      have r1 := r.puth h false
      have h1 : (l.set k (e, false))[k]? = some (e, false) := by simp [hk]
      have ce : (w.setCell ⟨g, 1 + k, none⟩ (.bool false)).cell? ⟨g, 9 + k, none⟩ = some (.int .i64 e) := (r1.row.cell (9 + k)).trans (gcells_e r1.c8 h1)
      have fe := r1.row.soft (9 + k)
      obtain ⟨w1, hw1⟩ : ∃ w1, w.setCell ⟨g, 1 + k, none⟩ (.bool false) = w1 := ⟨_, rfl⟩
      rw [hw1] at r1 ce fe
      have R := Lib.hid (fun n => (show GateAt (w1.drewN n) g (l.set k (e, false)) from r1.below (below_dn (Below.refl _ _) n)).pute h1 (addW e 1))
      have O1 := Lib.hid (show Only (· = g) w w1 from by rw [← hw1]; exact only_putG _ _ _ _)
      have e2 : (l.set k (e, false)).set k (addW e 1, false) = l.set k (addW e 1, false) := by rw [List.set_set]
      rw [← e2]
      have AD := Lib.hid (fun W => add_any e 1 W)
      clear h hk r h1 r1 e2
      go_enter Try.func23, Try.ntmps23
      go_wp2_with fail
      refine k1.out.mono ?_
      rintro e w' ⟨rfl, rfl⟩
      go_wp2
      go_region_with (go_at_call 24; refine (AD.out _).mono ?_; rintro e w' ⟨rfl, rfl⟩)
      all_goals go_wp2
      all_goals go_ret
      all_goals exact ⟨rfl, R.out _, (O1.out.drewN _).trans (only_putG _ _ _ _)⟩

set_option maxRecDepth 100000 in
set_option maxHeartbeats 400000 in
theorem link11_nil (a b : Int) (w : World) :
    Calls Try.prog 17 #[.pointer none, .int .i64 a, .int .i64 b] w fun e w' => e = .returned (.tuple #[.int .i64 0, .int .i64 1]) ∧ w = w' := by
  have k1 := Lib.hid (check11_nil a w)
  go_enter Try.func17, Try.ntmps17
  go_wp2_with fail
  refine k1.out.mono ?_
  rintro e w' ⟨rfl, rfl⟩
  go_wp2
  go_ret2
  exact ⟨rfl, rfl⟩

theorem add_q (x y : Int) (w : World) (m : Nat) : Calls Try.prog 24 #[.int .i64 x, .int .i64 y] (w.drewN m) fun e w' => e = .returned (.int .i64 (addW x y)) ∧ ∃ k, w' = w.drewN k :=
  (add_any x y _).mono fun _ _ ⟨he, hw⟩ => ⟨he, m, hw.symm⟩

set_option maxRecDepth 100000 in
set_option maxHeartbeats 2000000 in
theorem link11_any (g : Nat) (l : List (Int × Bool)) (a b : Int) (w : World) (r : GateAt w g l) :
    Calls Try.prog 17 #[ptr g, .int .i64 a, .int .i64 b] w fun e w' => e = .returned (.tuple #[.int .i64 (linkV l a b), .int .i64 (linkE l a b)]) ∧ ∃ n, w' = w.drewN n := by
  have k1 := Lib.hid (check11_any g l a w r)
  have k2 := Lib.hid (check11_any g l b w r)
  unfold ptr at k1 k2 ⊢
  rcases cr_cases l a with ⟨h, h0⟩ | ⟨k, e, d, rfl, hk, h⟩
  · rw [show ckG l a = 3 from by unfold ckG; rw [h]] at k1
    rw [show linkV l a b = 0 from by unfold linkV; rw [h], show linkE l a b = 3 from by unfold linkE; rw [h]]
    clear h h0 r k2
    go_enter Try.func17, Try.ntmps17
    go_wp2_with fail
    refine k1.out.mono ?_
    rintro e w' ⟨rfl, rfl⟩
    go_wp2
    go_ret2
    exact ⟨rfl, 0, rfl⟩
  · rw [show ckG l k = 0 from by unfold ckG; rw [cr_nat, h]] at k1
    rcases cr_cases l b with ⟨h', h0⟩ | ⟨k', e', d', rfl, hk', h'⟩
    · rw [show ckG l b = 3 from by unfold ckG; rw [h']] at k2
      rw [show linkV l k b = 0 from by unfold linkV; rw [cr_nat, h, h'], show linkE l k b = 3 from by unfold linkE; rw [cr_nat, h, h']]
      clear h h' h0 r
      go_enter Try.func17, Try.ntmps17
      go_wp2_with fail
      refine k1.out.mono ?_
      rintro e w' ⟨rfl, rfl⟩
      go_wp2_with fail
      refine k2.out.mono ?_
      rintro e w' ⟨rfl, rfl⟩
      go_wp2
      go_ret2
      exact ⟨rfl, 0, rfl⟩
    · rw [show ckG l k' = 0 from by unfold ckG; rw [cr_nat, h']] at k2
      by_cases hkk : (k : Int) = (k' : Int)
      · rw [show linkV l k k' = 0 from by unfold linkV; rw [cr_nat, cr_nat, h, h']; simp [hkk], show linkE l k k' = 2 from by unfold linkE; rw [cr_nat, cr_nat, h, h']; simp [hkk]]
        have hb : ((k : Int) == (k' : Int)) = true := by simpa using hkk
        clear h h' r hkk
        go_enter Try.func17, Try.ntmps17
        go_wp2_with fail
        refine k1.out.mono ?_
        rintro e w' ⟨rfl, rfl⟩
        go_wp2_with fail
        refine k2.out.mono ?_
        rintro e w' ⟨rfl, rfl⟩
        go_wp2
        go_ret2
        exact ⟨rfl, 0, rfl⟩
      · rw [show linkV l k k' = addW e e' from by unfold linkV; rw [cr_nat, cr_nat, h, h']; simp only [if_neg hkk], show linkE l k k' = 0 from by unfold linkE; rw [cr_nat, cr_nat, h, h']; simp only [if_neg hkk]]
        have hb : ((k : Int) == (k' : Int)) = false := by simpa using hkk
        have c1 : w.cell? ⟨g, 9 + k, none⟩ = some (.int .i64 e) := (r.row.cell (9 + k)).trans (gcells_e r.c8 h)
        have c2 : w.cell? ⟨g, 9 + k', none⟩ = some (.int .i64 e') := (r.row.cell (9 + k')).trans (gcells_e r.c8 h')
        have h8 : k < 8 := by have := r.c8; omega
        have h8' : k' < 8 := by have := r.c8; omega
        have b1 : (k : Int) < 8 := by omega
        have b2 : (k' : Int) < 8 := by omega
        have AD := Lib.hid (add_q e e' w)
        clear h h' r hkk hk hk'
        go_enter Try.func17, Try.ntmps17
        go_wp2_with fail
        refine k1.out.mono ?_
        rintro e w' ⟨rfl, rfl⟩
        go_wp2_with fail
        refine k2.out.mono ?_
        rintro e w' ⟨rfl, rfl⟩
        go_wp2_with fail
        go_quiet ((go_at_call 24; exact AD.out _))
        go_wp2
        go_ret2
        exact ⟨rfl, _, rfl⟩

#print axioms start11_any
#print axioms link11_any
end Go.Proofs.Ytaimhaokielhgaa
