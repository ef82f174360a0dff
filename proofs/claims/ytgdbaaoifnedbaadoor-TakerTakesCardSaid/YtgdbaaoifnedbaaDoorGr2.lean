/-
  Layer 15 (grant): Give, Slot, Drop.
  Conditions: those that each theorem states.
-/
import Derived.Test.YtgdbaaoifnedbaaDoorGr
namespace Go.Proofs.YtgdbaaoifnedbaaDoor
open Go.ChangeShapes Go.WideShapes Go.ChangeAt Go.RowKit

/-- What a writing call leaves: its answer, the new slots. -/
def GrP (g : Nat) (l' : List (Int × Bool)) (v : Value) (w : World) (e : Ending) (w' : World) : Prop := e = .returned v ∧ GrAt w' g l' ∧ Only (· = g) w w'

set_option maxRecDepth 100000 in
set_option maxHeartbeats 400000 in
theorem give15_nil (i : Int) (w : World) :
    Calls Tryd.prog 121 #[.pointer none, .int .i64 i] w fun e w' => e = .returned (.tuple #[.int .i64 0, .bool false]) ∧ w = w' := by
  have k1 := Lib.hid (exists15_nil i w)
  go_enter Tryd.func121, Tryd.ntmps121
  go_wp2_with fail
  refine k1.out.mono ?_
  rintro e w' ⟨rfl, rfl⟩
  go_wp2
  go_ret2
  exact ⟨rfl, rfl⟩

set_option maxRecDepth 100000 in
set_option maxHeartbeats 4000000 in
theorem give15_any (g : Nat) (l : List (Int × Bool)) (i : Int) (w : World) (r : GrAt w g l) :
    Calls Tryd.prog 121 #[ptr g, .int .i64 i] w (GrP g (giveL15 l i) (.tuple #[.int .i64 (giveV15 l i), .bool (giveB15 l i)]) w) := by
  have k1 := Lib.hid (exists15_any g l i w r)
  unfold ptr at k1 ⊢
  rcases at15_cases l i with ⟨h, h0⟩ | ⟨k, e, b, rfl, hk, h⟩
  · rw [show isB15 l i = false from by unfold isB15; rw [h]; rfl] at k1
    rw [show giveL15 l i = l from by unfold giveL15; rw [h], show giveV15 l i = 0 from by unfold giveV15; rw [h], show giveB15 l i = false from by unfold giveB15; rw [h]]
    have R := Lib.hid r
    clear h h0 r
    go_enter Tryd.func121, Tryd.ntmps121
    go_wp2_with fail
    refine k1.out.mono ?_
    rintro e w' ⟨rfl, rfl⟩
    go_wp2
    go_ret2
    exact ⟨rfl, R.out, Only.refl _ _⟩
  · rw [show isB15 l k = true from by unfold isB15; rw [at15_nat, h]; rfl] at k1
    have hc : w.cell? ⟨g, 65 + k, none⟩ = some (.bool b) := (r.row.cell (65 + k)).trans (cells15_h r.n64 h)
    have h64 : k < 64 := by have := r.n64; omega
    cases b with
    | true =>
      rw [show giveL15 l k = l from by unfold giveL15; rw [at15_nat, h], show giveV15 l k = 0 from by unfold giveV15; rw [at15_nat, h], show giveB15 l k = false from by unfold giveB15; rw [at15_nat, h]]
      have R := Lib.hid r
      clear h hk r
      go_enter Tryd.func121, Tryd.ntmps121
      go_wp2_with fail
      refine k1.out.mono ?_
      rintro e w' ⟨rfl, rfl⟩
      go_wp2
      go_ret2
      exact ⟨rfl, R.out, Only.refl _ _⟩
    | false =>
      rw [show giveL15 l k = l.set k (addW e 1, true) from by unfold giveL15; rw [at15_nat, h]; rfl, show giveV15 l k = addW e 1 * 64 + k from by unfold giveV15; rw [at15_nat, h], show giveB15 l k = true from by unfold giveB15; rw [at15_nat, h]]
      have ce : w.cell? ⟨g, 1 + k, none⟩ = some (.int .i64 e) := (r.row.cell (1 + k)).trans (cells15_g r.n64 h)
      have fe := r.row.soft (1 + k)
      have fc := r.row.soft (65 + k)
      obtain ⟨a0, a1⟩ := addW_bd e 1
      have h1 : (l.set k (addW e 1, false))[k]? = some (addW e 1, false) := by simp [hk]
      have e2 : (l.set k (addW e 1, false)).set k (addW e 1, true) = l.set k (addW e 1, true) := by rw [List.set_set]
      have R1 : ∀ n, GrAt ((w.drewN n).setCell ⟨g, 1 + k, none⟩ (.int .i64 (addW e 1))) g (l.set k (addW e 1, false)) := fun n => (show GrAt (w.drewN n) g l from r.below (below_q _ _)).putG h (addW e 1) a0 a1
      have R2 : ∀ n, GrAt (((w.drewN n).setCell ⟨g, 1 + k, none⟩ (.int .i64 (addW e 1))).setCell ⟨g, 65 + k, none⟩ (.bool true)) g (l.set k (addW e 1, true)) := fun n => by rw [← e2]; exact (R1 n).putH h1 true
      have HD := Lib.hid (fun n => handle15_any g _ k (addW e 1) true _ (R2 n) (by simp [hk]))
      have RR := Lib.hid R2
      have OO : Hid (∀ n, Only (· = g) w (((w.drewN n).setCell ⟨g, 1 + k, none⟩ (.int .i64 (addW e 1))).setCell ⟨g, 65 + k, none⟩ (.bool true))) := Lib.hid (fun n => (((Only.refl _ w).drewN n).trans (only_put15 _ g _ _)).trans (only_put15 _ g _ _))
      unfold ptr at HD
      have AD := Lib.hid (fun W => add_any e 1 W)
      clear h hk r h1 e2 R1 R2
      go_enter Tryd.func121, Tryd.ntmps121
      go_wp2_with fail
      refine k1.out.mono ?_
      rintro e w' ⟨rfl, rfl⟩
      go_wp2
      go_region_with (go_at_call 102; refine (AD.out _).mono ?_; rintro e w' ⟨rfl, rfl⟩)
      all_goals go_wp2_with fail
      all_goals refine (HD.out _).mono ?_
      all_goals rintro e w' ⟨rfl, rfl⟩
      all_goals go_wp2
      all_goals go_ret2
      all_goals exact ⟨rfl, RR.out _, OO.out _⟩

set_option maxRecDepth 100000 in
set_option maxHeartbeats 400000 in
theorem slot15_nil (h : Int) (w : World) :
    Calls Tryd.prog 76 #[.pointer none, .int .i64 h] w fun e w' => e = .returned (.tuple #[.int .i64 0, .bool false]) ∧ w = w' := by
  have b1 := Int.tmod_lt_of_pos h (show (0 : Int) < 64 by omega)
  have b2 : -64 < h.tmod 64 := by have := Int.tmod_lt_of_pos (-h) (show (0 : Int) < 64 by omega); rw [Int.neg_tmod] at this; omega
  have k1 := Lib.hid (exists15_nil (h.tmod 64) w)
  go_enter Tryd.func76, Tryd.ntmps76
  go_wp2_with fail
  refine k1.out.mono ?_
  rintro e w' ⟨rfl, rfl⟩
  go_wp2
  go_ret2
  exact ⟨rfl, rfl⟩

set_option maxRecDepth 100000 in
set_option maxHeartbeats 4000000 in
theorem slot15_any (g : Nat) (l : List (Int × Bool)) (h : Int) (w : World) (r : GrAt w g l) :
    Calls Tryd.prog 76 #[ptr g, .int .i64 h] w fun e w' => e = .returned (.tuple #[.int .i64 (slotV15 l h), .bool (slotB15 l h)]) ∧ w = w' := by
  have b1 := Int.tmod_lt_of_pos h (show (0 : Int) < 64 by omega)
  have b2 : -64 < h.tmod 64 := by have := Int.tmod_lt_of_pos (-h) (show (0 : Int) < 64 by omega); rw [Int.neg_tmod] at this; omega
  obtain ⟨i, hi⟩ : ∃ i, h.tmod 64 = i := ⟨_, rfl⟩
  have k1 := Lib.hid (exists15_any g l i w r)
  unfold slotV15 slotB15 slotO15
  rw [hi] at b1 b2 ⊢
  unfold ptr at k1 ⊢
  rcases at15_cases l i with ⟨ha, h0⟩ | ⟨k, e, b, rfl, hk, ha⟩
  · rw [show isB15 l i = false from by unfold isB15; rw [ha]; rfl] at k1
    rw [ha]
    clear ha h0 r
    go_enter Tryd.func76, Tryd.ntmps76
    go_wp2_with fail
    refine k1.out.mono ?_
    rintro e w' ⟨rfl, rfl⟩
    go_wp2
    go_ret2
    exact ⟨rfl, rfl⟩
  · rw [show isB15 l k = true from by unfold isB15; rw [at15_nat, ha]; rfl] at k1
    have hc : w.cell? ⟨g, 65 + k, none⟩ = some (.bool b) := (r.row.cell (65 + k)).trans (cells15_h r.n64 ha)
    have h64 : k < 64 := by have := r.n64; omega
    have hd := Lib.hid (handle15_any g l k e b w r ha)
    unfold ptr at hd
    rw [at15_nat, ha]
    cases b with
    | false =>
      clear ha hk r hd
      go_enter Tryd.func76, Tryd.ntmps76
      go_wp2_with fail
      refine k1.out.mono ?_
      rintro e w' ⟨rfl, rfl⟩
      go_wp2
      go_ret2
      exact ⟨rfl, rfl⟩
    | true =>
      obtain ⟨H, hH⟩ : ∃ H, e * 64 + (k : Int) = H := ⟨_, rfl⟩
      dsimp only
      rw [hH] at hd ⊢
      by_cases hq : H = h
      · subst hq
        simp only [if_true]
        have hb : (H != H) = false := by simp
        clear ha hk r hH
        go_enter Tryd.func76, Tryd.ntmps76
        go_wp2_with fail
        refine k1.out.mono ?_
        rintro e w' ⟨rfl, rfl⟩
        go_wp2_with fail
        refine hd.out.mono ?_
        rintro e w' ⟨rfl, rfl⟩
        go_wp2
        go_ret2
        exact ⟨by simp, rfl⟩
      · simp only [if_neg hq]
        have hb : (H != h) = true := by simpa using hq
        clear ha hk r hH hq
        go_enter Tryd.func76, Tryd.ntmps76
        go_wp2_with fail
        refine k1.out.mono ?_
        rintro e w' ⟨rfl, rfl⟩
        go_wp2_with fail
        refine hd.out.mono ?_
        rintro e w' ⟨rfl, rfl⟩
        go_wp2
        go_ret2
        exact ⟨rfl, rfl⟩

set_option maxRecDepth 100000 in
set_option maxHeartbeats 400000 in
theorem drop15_nil (h : Int) (w : World) :
    Calls Tryd.prog 77 #[.pointer none, .int .i64 h] w fun e w' => e = .returned (.int .i64 1) ∧ w = w' := by
  go_enter Tryd.func77, Tryd.ntmps77
  go_wp2
  go_ret
  exact ⟨rfl, rfl⟩

set_option maxRecDepth 100000 in
set_option maxHeartbeats 2000000 in
theorem drop15_any (g : Nat) (l : List (Int × Bool)) (h : Int) (w : World) (r : GrAt w g l) :
    Calls Tryd.prog 77 #[ptr g, .int .i64 h] w (GrP g (dropL15 l h) (.int .i64 (dropE15 l h)) w) := by
  have k1 := Lib.hid (slot15_any g l h w r)
  unfold slotV15 slotB15 at k1
  unfold dropL15 dropE15
  unfold ptr at k1 ⊢
  cases hs : slotO15 l h with
  | none =>
    rw [hs] at k1
    have R := Lib.hid r
    clear hs r
    go_enter Tryd.func77, Tryd.ntmps77
    go_wp2_with fail
    refine k1.out.mono ?_
    rintro e w' ⟨rfl, rfl⟩
    go_wp2
    go_ret
    exact ⟨rfl, R.out, Only.refl _ _⟩
  | some k =>
    rw [hs] at k1
    obtain ⟨e, ha, -⟩ := slotO15_is hs
    have hk := lt_of_at ha
    simp only [offL15, ha]
    have hc : w.cell? ⟨g, 65 + k, none⟩ = some (.bool true) := (r.row.cell (65 + k)).trans (cells15_h r.n64 ha)
    have fc := r.row.soft (65 + k)
    have h64 : k < 64 := by have := r.n64; omega
    have R := Lib.hid (r.putH ha false)
    clear hs ha hk r
    go_enter Tryd.func77, Tryd.ntmps77
    go_wp2_with fail
    refine k1.out.mono ?_
    rintro e w' ⟨rfl, rfl⟩
    go_wp2
    go_ret
    exact ⟨rfl, R.out, only_put15 _ _ _ _⟩

#print axioms give15_any
#print axioms slot15_any
#print axioms drop15_any
end Go.Proofs.YtgdbaaoifnedbaaDoor
