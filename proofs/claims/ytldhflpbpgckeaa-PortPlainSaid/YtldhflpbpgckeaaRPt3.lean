/-
  Layer 14 (port): the reference's Do for kicks, and for whatever touch.
  Conditions: those that each theorem states.
-/
import Derived.Test.YtldhflpbpgckeaaRPt2
namespace Go.Proofs.Ytldhflpbpgckeaa
open Go.ChangeShapes Go.WideShapes Go.ChangeAt Go.RowKit

section
variable {P : Nat → Prop} {V E K : List Int} {A1 A2 A3 : Option Addr} {n1 c1 n2 c2 n3 c3 : Nat}

set_option maxRecDepth 100000 in
set_option maxHeartbeats 4000000 in
theorem rdo14_kick (i u : Int) (w : World) (hl : K.length ≤ 65536) (hP : ∀ g, w.heap.size ≤ g → P g) (r : RPl14 w P V E K (.slice A1 n1 c1) (.slice A2 n2 c2) (.slice A3 n3 c3)) :
    Calls Try.prog 8 #[.agg #[.slice A1 n1 c1, .slice A2 n2 c2, .slice A3 n3 c3], touchV 5 i u] w (RDo14 P V E (K ++ [i]) ((5, i, 0) : Tch) 0 w) := by
  obtain ⟨i0, hi0, hz0, hz1, hz2⟩ := info_parts int_info
  have R0 := Lib.hid r
  have M0 := Lib.hid (Mid14.start w (.slice A1 n1 c1) (.slice A2 n2 c2) (.slice A3 n3 c3) 5 i u)
  have R := Lib.hid (r.below (four14_rows w (.slice A1 n1 c1) (.slice A2 n2 c2) (.slice A3 n3 c3) 5 i u).2.2.2.2.1)
  have HS4 := Lib.hid (four14_rows w (.slice A1 n1 c1) (.slice A2 n2 c2) (.slice A3 n3 c3) 5 i u).2.2.2.2.2
  have hn := lies_len r.kicks
  have hn3 : n3 ≤ 65536 := by omega
  have HP := Lib.hid hP
  have HN := Lib.hid hn
  have O1 := Lib.hid (ints_one K)
  unfold four14 at R M0 HS4
  clear r hP hn hl
  unfold touchV
  go_enter Try.func8, Try.ntmps8
  go_wp2_with (first
    | (at_builtin
       refine app_walk _ rfl (.tmp 72) (.tmp 74) 22 rfl (w.heap.size + 1 + 1 + 1 + 1) 3 i0 _ 8 Try.underlying22 hi0 hz0 hz1 hz2 rfl (.slice none 0 0) 0 [] rfl (World.ownsRow_nil _ _ _ _) P A3 n3 c3 (ints K) rfl R.out.kicks R.out.cz O1.out (by unfold maxLen; omega) (by omega) (Nat.le_of_eq HS4.out.symm) ?_
       intro v1 w1 hown1 hg1 hat1
       rw [Nat.zero_add, List.nil_append] at hown1
       have hgb : Below w.heap.size w w1 := M0.out.below.grown hg1 M0.out.below.size (by simp [Value.ownBlock])
       have M1 : Hid (Mid14 w w1 (.slice A1 n1 c1) (.slice A2 n2 c2) (.slice A3 n3 c3) 5 i u) := Lib.hid (M0.out.only (S := fun _ => False) ⟨hg1.os, hg1.tape, hg1.output, hg1.size, fun q hq _ => hg1.block q hq (by simp [Value.ownBlock])⟩ (fun _ _ h => h))
       obtain ⟨B1, d1, rfl⟩ := own_open14 hown1
       have H1 := Lib.hid hown1
       have a0 := M1.out.r0.cell 0
       have a1 := M1.out.r0.cell 1
       have a2 := M1.out.r0.cell 2
       have e0 := M1.out.r1.cell 0
       have e1 := M1.out.r1.cell 1
       have e2 := M1.out.r1.cell 2
       simp only [List.getElem?_cons_zero, List.getElem?_cons_succ] at a0 a1 a2 e0 e1 e2
       clear hown1 hg1 hat1 hgb)
    | (at_builtin
       refine app14_walk rfl (.tmp 76) (.tmp 79) 22 rfl (w.heap.size + 1 + 1 + 1 + 1) 3 i0 _ 1 8 Try.underlying22 hi0 hz0 hz1 hz2 rfl (by omega) (.slice B1 n3 d1) n3 (ints K) rfl (H1.out.alloc _) ⟨w1.heap.size, 0, none⟩ 1 1 [.int .i64 i] rfl rfl (cell_one_new _ _ _) (by intro u hu; simp at hu; subst hu; rfl) (by unfold maxLen; omega) (by omega) (by simp; have := M1.out.size; omega) ?_
       intro v2 w2 hown2 hg2 hat2
       obtain ⟨g', cap', rfl, hbg, hlt'⟩ := hown2.form (by omega)
       have HO2 : Hid (w2.ownsRow (w.heap.size + 1 + 1 + 1 + 1) 3 1 (.slice (some ⟨g', 0, none⟩) (n3 + 1) cap') (n3 + 1) (ints (K ++ [i]))) := Lib.hid (by rw [ints_append]; exact hown2)
       have M2 : Hid (Mid14 w w2 (.slice A1 n1 c1) (.slice A2 n2 c2) (.slice A3 n3 c3) 5 i u) := Lib.hid ((M1.out.quiet (below_al w1 (.cells #[.int .i64 i] 3))).only (Only.of_own hg2) (fun g hg e => by have := (H1.out.lt g e).1; omega))
       clear hown2 hg2 hat2 a0 a1 a2 e0 e1 e2
       have a0 := M2.out.r0.cell 0
       have a1 := M2.out.r0.cell 1
       have a2 := M2.out.r0.cell 2
       have g0 := M2.out.r0.soft 2
       have e0 := M2.out.r1.cell 0
       have e1 := M2.out.r1.cell 1
       have e2 := M2.out.r1.cell 2
       have t0 := M2.out.r2.cell 0
       have t1 := M2.out.r2.cell 1
       have t2 := M2.out.r2.cell 2
       have f0 := M2.out.r2.soft 0
       have f1 := M2.out.r2.soft 1
       have f2 := M2.out.r2.soft 2
       have z0 := M2.out.r3.cell 0
       have z1 := M2.out.r3.cell 1
       have z2 := M2.out.r3.cell 2
       have y0 := M2.out.r3.soft 0
       have y1 := M2.out.r3.soft 1
       have y2 := M2.out.r3.soft 2
       simp only [List.getElem?_cons_zero, List.getElem?_cons_succ] at a0 a1 a2 e0 e1 e2 t0 t1 t2 z0 z1 z2))
  go_region
  all_goals go_wp2
  have REND : Hid (RPl14 w2 (fun g => P g ∧ (g < w.heap.size ∨ w.heap.size + 4 ≤ g)) V E (K ++ [i]) (.slice A1 n1 c1) (.slice A2 n2 c2) (.slice (some ⟨g', 0, none⟩) (n3 + 1) cap')) :=
    Lib.hid ⟨(R0.out.words.weak (fun g hg hp => ⟨hp, .inl hg⟩)).below M2.out.below, (R0.out.epochs.weak (fun g hg hp => ⟨hp, .inl hg⟩)).below M2.out.below, (Lies.of_own HO2.out).weak (fun g _ h => ⟨HP.out g (by omega), .inr (by omega)⟩), R0.out.cx, R0.out.cy, CapOk.of_own HO2.out⟩
  all_goals refine bodyPost_ret (v := .tuple #[.agg #[.slice A1 n1 c1, .slice A2 n2 c2, .slice (some ⟨g', 0, none⟩) (n3 + 1) cap'], touchV ((5, i, 0) : Tch).1 ((5, i, 0) : Tch).2.1 ((5, i, 0) : Tch).2.2, .int .i64 0]) (by simp [results, Try.results8, go_sem, touchV, *]) rfl (rdo14_end M2.out.below ?_ REND.out)
  all_goals repeat (with_reducible (first | refine Only.setCell ?_ (Or.inl (show _ ≤ _ ∧ _ < _ from by constructor <;> simp <;> omega)) _ | refine Only.drew ?_ | exact Only.refl _ _))

/-- What a touch leaves as what was touched. -/
def dX14 (V E : List Int) (κ i u : Int) : Tch := (dT14 V E κ i u).headD (0, 0, 0)

theorem rdo14_any (κ i u : Int) (w : World) (hl : V.length ≤ 65536) (hk : K.length ≤ 65536) (hV : ∀ x ∈ V, 0 ≤ x ∧ x ≤ 65535) (hP : ∀ g, w.heap.size ≤ g → P g) (r : RPl14 w P V E K (.slice A1 n1 c1) (.slice A2 n2 c2) (.slice A3 n3 c3)) :
    Calls Try.prog 8 #[.agg #[.slice A1 n1 c1, .slice A2 n2 c2, .slice A3 n3 c3], touchV κ i u] w (RDo14 P (dV14 V κ i u) E (dK14 K κ i) (dX14 V E κ i u) (dN14 V E κ i) w) := by
  by_cases h1 : κ = 1
  · subst h1; exact rdo14_load i u w r
  · by_cases h2 : κ = 2
    · subst h2
      cases hi : in14 V i with
      | false =>
        have e : dV14 V 2 i u = V := (put14_out _ hi : put14 V i (u % 65536) = V)
        rw [e]
        exact rdo14_storeN i u w hi r
      | true =>
        obtain ⟨j, x, rfl, _, hj, _, e⟩ := in14_at hi
        have e2 : dV14 V 2 (j : Int) u = V.set j (u % 65536) := e _
        rw [e2]
        exact rdo14_storeY j u w hj hl hV hP r
    · by_cases h3 : κ = 3
      · subst h3; exact rdo14_fence i u w r
      · by_cases h4 : κ = 4
        · subst h4; exact rdo14_epoch i u w r
        · by_cases h5 : κ = 5
          · subst h5; exact rdo14_kick i u w hk hP r
          · have e1 : dV14 V κ i u = V := by unfold dV14; rw [if_neg h2]
            have e2 : dK14 K κ i = K := by unfold dK14; rw [if_neg h5]
            have e3 : dX14 V E κ i u = (0, 0, 0) := by unfold dX14 dT14; rw [if_neg h1, if_neg h2, if_neg h3, if_neg h4, if_neg h5]; rfl
            have e4 : dN14 V E κ i = 0 := by unfold dN14; rw [if_neg h1, if_neg h4]
            rw [e1, e2, e3, e4]
            exact rdo14_other κ i u h1 h2 h3 h4 h5 w r
end

#print axioms rdo14_any
end Go.Proofs.Ytldhflpbpgckeaa
