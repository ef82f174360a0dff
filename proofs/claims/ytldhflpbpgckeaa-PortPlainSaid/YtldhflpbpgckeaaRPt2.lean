/-
  Layer 14 (port): the reference's Do for stores and kicks.
  Conditions: those that each theorem states.
-/
import Derived.Test.YtldhflpbpgckeaaRPt
namespace Go.Proofs.Ytldhflpbpgckeaa
open Go.ChangeShapes Go.WideShapes Go.ChangeAt Go.RowKit

section
variable {P : Nat → Prop} {V E K : List Int} {A1 A2 A3 : Option Addr} {n1 c1 n2 c2 n3 c3 : Nat}

theorem lies_len {w : World} {P : Nat → Prop} {A : Option Addr} {n c : Nat} {l : List Int} (h : Lies w P (.slice A n c) (ints l)) : l.length = n := by
  obtain ⟨A', c', hv, _⟩ := h
  injection hv with e1 e2 e3
  rw [e2, ints_len]

set_option maxRecDepth 100000 in
set_option maxHeartbeats 2000000 in
theorem rdo14_storeN (i u : Int) (w : World) (hi : in14 V i = false) (r : RPl14 w P V E K (.slice A1 n1 c1) (.slice A2 n2 c2) (.slice A3 n3 c3)) :
    Calls Try.prog 8 #[.agg #[.slice A1 n1 c1, .slice A2 n2 c2, .slice A3 n3 c3], touchV 2 i u] w (RDo14 P V E K ((2, i, u) : Tch) 0 w) := by
  have R0 := Lib.hid r
  have hi0 := in14_no hi
  rw [lies_len r.words] at hi0
  clear r hi
  unfold touchV
  rcases hi0 with hi0 | ⟨hi0, hi1⟩
  · have m1 : decide (0 ≤ i) = false := by simp; omega
    go_enter Try.func8, Try.ntmps8
    go_wp2
    go_region
    all_goals go_wp2
    all_goals exact bodyPost_ret (v := .tuple #[.agg #[.slice A1 n1 c1, .slice A2 n2 c2, .slice A3 n3 c3], touchV ((2, i, u) : Tch).1 ((2, i, u) : Tch).2.1 ((2, i, u) : Tch).2.2, .int .i64 (0)]) (by simp [results, Try.results8, go_sem, touchV]) rfl ⟨_, _, _, _, _, _, _, _, _, rfl, R0.out.below (by go_grown), by go_grown⟩
  · have m1 : decide (i < (n1 : Int)) = false := by simp; omega
    go_enter Try.func8, Try.ntmps8
    go_wp2
    go_region
    all_goals go_wp2
    all_goals exact bodyPost_ret (v := .tuple #[.agg #[.slice A1 n1 c1, .slice A2 n2 c2, .slice A3 n3 c3], touchV ((2, i, u) : Tch).1 ((2, i, u) : Tch).2.1 ((2, i, u) : Tch).2.2, .int .i64 (0)]) (by simp [results, Try.results8, go_sem, touchV]) rfl ⟨_, _, _, _, _, _, _, _, _, rfl, R0.out.below (by go_grown), by go_grown⟩

/-- The four variables of Do, behind a call that only made memory. -/
structure Mid14 (w w1 : World) (x y z : Value) (κ i u : Int) : Prop where
  r0 : Row w1 w.heap.size 30 [x, y, z]
  r1 : Row w1 (w.heap.size + 1) 33 [.int .i64 κ, .int .i64 i, .int .i64 u]
  r2 : Row w1 (w.heap.size + 1 + 1) 30 [.slice none 0 0, .slice none 0 0, .slice none 0 0]
  r3 : Row w1 (w.heap.size + 1 + 1 + 1) 33 [.int .i64 0, .int .i64 0, .int .i64 0]
  below : Below w.heap.size w w1
  size : w.heap.size + 4 ≤ w1.heap.size
theorem Mid14.start (w : World) (x y z : Value) (κ i u : Int) : Mid14 w (four14 w x y z κ i u) x y z κ i u := by
  obtain ⟨a, b, c, d, e, f⟩ := four14_rows w x y z κ i u
  exact ⟨a, b, c, d, e, by omega⟩
theorem Mid14.only {S : Nat → Prop} {w w1 w2 : World} {x y z : Value} {κ i u : Int} (m : Mid14 w w1 x y z κ i u) (ho : Only S w1 w2) (hS : ∀ g, g < w.heap.size + 4 → ¬ S g) : Mid14 w w2 x y z κ i u :=
  ⟨m.r0.only ho (hS _ (by omega)), m.r1.only ho (hS _ (by omega)), m.r2.only ho (hS _ (by omega)), m.r3.only ho (hS _ (by omega)), Only.below m.below ho (by have := m.size; omega) (fun g hg => hS g (by omega)), Nat.le_trans m.size ho.size⟩
theorem Mid14.quiet {w w1 w2 : World} {x y z : Value} {κ i u : Int} (m : Mid14 w w1 x y z κ i u) (hb : Below w1.heap.size w1 w2) : Mid14 w w2 x y z κ i u :=
  m.only (Only.of_below hb (fun _ => False)) (fun _ _ h => h)

/-- A number is put at a place of a list of the call's own: what the region's operations ask. -/
theorem own_put14 {w w1 : World} {base g n c : Nat} {l : List Int} {x y z : Value} {κ i u : Int} (m : Mid14 w w1 x y z κ i u) (o : w1.ownsRow base 3 1 (.slice (some ⟨g, 0, none⟩) n c) n (ints l)) (hg : w.heap.size + 4 ≤ g) {j : Nat} (hj : j < n) (v : Int) :
    (w1.setCell ⟨g, j, none⟩ (.int .i64 v)).cell? ⟨w.heap.size + 1, 1, none⟩ = some (.int .i64 i) ∧ (w1.setCell ⟨g, j, none⟩ (.int .i64 v)).cell? ⟨w.heap.size + 1, 2, none⟩ = some (.int .i64 u) ∧ (w1.setCell ⟨g, j, none⟩ (.int .i64 v)).cell? ⟨g, j, none⟩ = some (heldV14 (w1.setCell ⟨g, j, none⟩ (.int .i64 v)) ⟨g, j, none⟩) ∧ (w1.setCell ⟨g, j, none⟩ (.int .i64 v)).frozen? ⟨g, j, none⟩ = false := by
  have o2 := (o.stored j (.int .i64 v)).1
  have hl : (ints l).length = n := by have := o.1; omega
  exact ⟨(cell_far (p := ⟨g, j, none⟩) (show w.heap.size + 1 ≠ g by omega) _).trans (m.r1.cell 1), (cell_far (p := ⟨g, j, none⟩) (show w.heap.size + 1 ≠ g by omega) _).trans (m.r1.cell 2), heldV14_of ⟨_, (o2.cellAt j (by omega)).trans (List.getElem?_eq_getElem (by rw [List.length_set]; omega))⟩, o2.frozenAt j⟩

set_option maxRecDepth 100000 in
set_option maxHeartbeats 4000000 in
theorem rdo14_storeY (j : Nat) (u : Int) (w : World) (hj : j < V.length) (hl : V.length ≤ 65536) (hV : ∀ x ∈ V, 0 ≤ x ∧ x ≤ 65535) (hP : ∀ g, w.heap.size ≤ g → P g) (r : RPl14 w P V E K (.slice A1 n1 c1) (.slice A2 n2 c2) (.slice A3 n3 c3)) :
    Calls Try.prog 8 #[.agg #[.slice A1 n1 c1, .slice A2 n2 c2, .slice A3 n3 c3], touchV 2 (j : Int) u] w (RDo14 P (V.set j (u % 65536)) E K ((2, (j : Int), u) : Tch) 0 w) := by
  have R0 := Lib.hid r
  have M0 := Lib.hid (Mid14.start w (.slice A1 n1 c1) (.slice A2 n2 c2) (.slice A3 n3 c3) 2 j u)
  have R := Lib.hid (r.below (four14_rows w (.slice A1 n1 c1) (.slice A2 n2 c2) (.slice A3 n3 c3) 2 j u).2.2.2.2.1)
  have hs4 := (four14_rows w (.slice A1 n1 c1) (.slice A2 n2 c2) (.slice A3 n3 c3) 2 j u).2.2.2.2.2
  have HS4 := Lib.hid hs4
  have hn := lies_len r.words
  have hj1 : j < n1 := by omega
  have hj2 : (j : Int) < (n1 : Int) := by omega
  have hVV := Lib.hid (mod14_fix hV)
  have HP := Lib.hid hP
  have HN := Lib.hid hn
  unfold four14 at R M0 HS4
  clear r hj hV hP hn hs4
  unfold touchV
  go_enter Try.func8, Try.ntmps8
  go_wp2_with fail
  refine (all14_any _ V _ _ R.out.words hl).mono ?_
  rintro e w1 ⟨v1, rfl, o1, hb1⟩
  rw [HS4.out, HN.out, hVV.out] at o1
  obtain ⟨g', cap', rfl, hbg, hlt'⟩ := o1.form (by omega)
  have M1 := Lib.hid (M0.out.quiet hb1)
  have HO := Lib.hid o1
  have HPUT := Lib.hid (own_put14 M1.out o1 (by omega) hj1 (u % 65536))
  have q1 := M1.out.r1.cell 1
  have q2 := M1.out.r1.cell 2
  have q3 : w1.cell? ⟨g', j, none⟩ = some (heldV14 w1 ⟨g', j, none⟩) := heldV14_of ⟨_, (o1.cellAt j (by omega)).trans (List.getElem?_eq_getElem (by have := o1.1; omega))⟩
  have q4 := o1.frozenAt j
  simp only [List.getElem?_cons_zero, List.getElem?_cons_succ] at q1 q2
  clear o1 hb1
  go_wp2
  go_region_held3 (fun W => W.cell? ⟨w.heap.size + 1, 1, none⟩ = some (.int .i64 (j : Int)) ∧ W.cell? ⟨w.heap.size + 1, 2, none⟩ = some (.int .i64 u) ∧ W.cell? ⟨g', j, none⟩ = some (heldV14 W ⟨g', j, none⟩) ∧ W.frozen? ⟨g', j, none⟩ = false)
    (first | exact ⟨q1, q2, q3, q4⟩ | exact HPUT.out | go_keep)
    (first
      | (go_at_call 19; refine (rword_any _ _).mono ?_; rintro e w' ⟨rfl, rfl⟩))
  clear q1 q2 q3 q4 HPUT
  obtain ⟨w2, hw2⟩ : ∃ w2, w2 = (w1.setCell ⟨g', j, none⟩ (.int .i64 (u % 65536))).drew := ⟨_, rfl⟩
  rw [← hw2]
  have o2 : Only (· = g') w1 w2 := by rw [hw2]; exact ((Only.refl (· = g') w1).setCell (p := ⟨g', j, none⟩) (.inl rfl) _).drew
  have HO2 : Hid (w2.ownsRow (w.heap.size + 1 + 1 + 1 + 1) 3 1 (.slice (some ⟨g', 0, none⟩) n1 cap') n1 (ints (V.set j (u % 65536)))) := Lib.hid (by rw [hw2, ints_set]; exact own_quiet (HO.out.stored j (.int .i64 (u % 65536))).1 (fun _ _ => rfl))
  have M2 := Lib.hid (M1.out.only o2 (fun g hg e => by omega))
  clear hw2 o2
  have a0 := M2.out.r0.cell 0
  have a1 := M2.out.r0.cell 1
  have a2 := M2.out.r0.cell 2
  have g0 := M2.out.r0.soft 0
  have e0 := M2.out.r1.cell 0
  have e1 := M2.out.r1.cell 1
  have e2 := M2.out.r1.cell 2
  have t0 := M2.out.r2.cell 0
  have t1 := M2.out.r2.cell 1
  have t2 := M2.out.r2.cell 2
  have f0 := M2.out.r2.soft 0
  have f1 := M2.out.r2.soft 1
  have f2 := M2.out.r2.soft 2
  have z0 := M2.out.r3.cell 0
  have z1 := M2.out.r3.cell 1
  have z2 := M2.out.r3.cell 2
  have y0 := M2.out.r3.soft 0
  have y1 := M2.out.r3.soft 1
  have y2 := M2.out.r3.soft 2
  simp only [List.getElem?_cons_zero, List.getElem?_cons_succ] at a0 a1 a2 e0 e1 e2 t0 t1 t2 z0 z1 z2
  go_wp2
  go_region
  all_goals go_wp2
  have REND : Hid (RPl14 w2 (fun g => P g ∧ (g < w.heap.size ∨ w.heap.size + 4 ≤ g)) (V.set j (u % 65536)) E K (.slice (some ⟨g', 0, none⟩) n1 cap') (.slice A2 n2 c2) (.slice A3 n3 c3)) :=
    Lib.hid ⟨(Lies.of_own HO2.out).weak (fun g _ h => ⟨HP.out g (by omega), .inr (by omega)⟩), (R0.out.epochs.weak (fun g hg hp => ⟨hp, .inl hg⟩)).below M2.out.below, (R0.out.kicks.weak (fun g hg hp => ⟨hp, .inl hg⟩)).below M2.out.below, CapOk.of_own HO2.out, R0.out.cy, R0.out.cz⟩
  all_goals refine bodyPost_ret (v := .tuple #[.agg #[.slice (some ⟨g', 0, none⟩) n1 cap', .slice A2 n2 c2, .slice A3 n3 c3], touchV ((2, (j : Int), u) : Tch).1 ((2, (j : Int), u) : Tch).2.1 ((2, (j : Int), u) : Tch).2.2, .int .i64 0]) (by simp [results, Try.results8, go_sem, touchV, *]) rfl (rdo14_end M2.out.below ?_ REND.out)
  all_goals repeat (with_reducible (first | refine Only.setCell ?_ (Or.inl (show _ ≤ _ ∧ _ < _ from by constructor <;> simp <;> omega)) _ | refine Only.drew ?_ | exact Only.refl _ _))
end

#print axioms rdo14_storeY
end Go.Proofs.Ytldhflpbpgckeaa
