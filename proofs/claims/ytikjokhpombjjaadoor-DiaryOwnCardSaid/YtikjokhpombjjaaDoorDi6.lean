/-
  Layer 19 (diary): the entries of a channel: Of, the reference's Of.
  Conditions: those that each theorem states.
-/
import Derived.Test.YtikjokhpombjjaaDoorDi4
import Derived.Test.YtikjokhpombjjaaDoorDi5
namespace Go.Proofs.YtikjokhpombjjaaDoor
open Go.ChangeShapes Go.WideShapes Go.ChangeAt Go.RowKit

theorem disj19 {v v' v2 : Value} {N : Nat} (hd : ∀ b, v.ownBlock = some b → v2.ownBlock ≠ some b) (hat : v'.ownBlock = v.ownBlock ∨ v'.ownBlock = some N) (hlt : ∀ b, v2.ownBlock = some b → b < N) : ∀ b, v'.ownBlock = some b → v2.ownBlock ≠ some b := by
  intro b hb hb2
  rcases hat with h | h
  · exact hd b (h.symm.trans hb) hb2
  · have h4 := hlt b hb2
    have h5 := h.symm.trans hb
    injection h5 with h5
    omega

/-- As ChP, the slice written out. -/
def ChQ (l : List En) (w : World) (e : Ending) (w' : World) : Prop := ∃ A n c L, e = .returned (.slice A n c) ∧ L.map (·.1) = l ∧ OwnC w' w.heap.size 38 (.slice A n c) L ∧ Below w.heap.size w w'
theorem ChP.q {l : List En} {w : World} {e : Ending} {w' : World} (h : ChP l w e w') : ChQ l w e w' := by
  obtain ⟨v, L, h1, h2, h3, h4⟩ := h
  obtain ⟨A, c, h5⟩ := own19_open h3.1
  subst h5
  exact ⟨A, _, c, L, h1, h2, h3, h4⟩

/-- What Of leaves. -/
def OfP (f t : Int) (l : List En) (w : World) (e : Ending) (w' : World) : Prop := ∃ v1 v2 L1 L2, e = .returned (.tuple #[v1, v2]) ∧ L1.map (·.1) = l.filter (sentB f t) ∧ L2.map (·.1) = l.filter (takenB f t) ∧ OwnC w' w.heap.size 38 v1 L1 ∧ OwnC w' w.heap.size 38 v2 L2 ∧ Below w.heap.size w w'

set_option maxRecDepth 100000 in
set_option maxHeartbeats 2000000 in
theorem of19_any (f t : Int) (v : Value) (l : List En) (w : World) (hv : Ens w v l) (hm : l.length ≤ 1000) (hload : ∀ x ∈ l, x.load.length ≤ 100) :
    Calls Tryd.prog 9 #[v, .int .i64 f, .int .i64 t] w (OfP f t l w) := by
  have C1 := Lib.hid (fun (W : World) (z y : Nat) (hb : Below w.heap.size w W) hz hy => (choose_sent f t v l z y W (hv.below hb) hm hload hz hy).mono (fun _ _ h => h.q))
  have C2 := Lib.hid (fun (W : World) (z y : Nat) (hb : Below w.heap.size w W) hz hy => (choose_taken f t v l z y W (hv.below hb) hm hload hz hy).mono (fun _ _ h => h.q))
  have R1 := Lib.hid ((Row.new w 3 #[.int .i64 f]).below (below_al _ (.cells #[.int .i64 t] 3)))
  have R2 : Hid (Row ((w.alloc (.cells #[.int .i64 f] 3)).alloc (.cells #[.int .i64 t] 3)) (w.heap.size + 1) 3 [.int .i64 t]) := Lib.hid (by have := Row.new (w.alloc (.cells #[.int .i64 f] 3)) 3 #[.int .i64 t]; rwa [size_al] at this)
  have z1 : Hid (((w.alloc (.cells #[.int .i64 f] 3)).alloc (.cells #[.int .i64 t] 3)).cell? ⟨w.heap.size, 0, none⟩ = some (.int .i64 f)) := Lib.hid (R1.out.cell 0)
  have z2 : Hid (((w.alloc (.cells #[.int .i64 f] 3)).alloc (.cells #[.int .i64 t] 3)).cell? ⟨w.heap.size + 1, 0, none⟩ = some (.int .i64 t)) := Lib.hid (R2.out.cell 0)
  obtain ⟨A, n, c, rfl, HN, HV⟩ := hv.open_
  clear hv
  go_enter Tryd.func9, Tryd.ntmps9
  go_wp2_with (first
    | (go_at_call 20; (with_reducible refine (C1.out _ w.heap.size (w.heap.size + 1) (show Below w.heap.size w _ from by go_grown) z1.out z2.out).mono ?_); rintro e w1 ⟨A1, n1, c1, L1, rfl, m1, o1, b1⟩; have O1 := Lib.hid (o1.weak (b2 := w.heap.size) (by simp <;> omega)); have M1 := Lib.hid m1; have B1 := Lib.hid (below_on (show Below w.heap.size w _ from by go_grown) b1); have R11 : Hid (w1.cell? ⟨w.heap.size, 0, none⟩ = some (.int .i64 f)) := Lib.hid ((R1.out.below b1).cell 0); have R12 : Hid (w1.cell? ⟨w.heap.size + 1, 0, none⟩ = some (.int .i64 t)) := Lib.hid ((R2.out.below b1).cell 0); clear m1 o1 b1)
    | (go_at_call 20; (with_reducible refine (C2.out _ (w.heap.size + 1) w.heap.size B1.out R12.out R11.out).mono ?_); rintro e w2 ⟨A2, n2, c2, L2, rfl, m2, o2, b2⟩; have O2 := Lib.hid (o2.weak (b2 := w.heap.size) (by have := B1.out.size; omega)); have O12 := Lib.hid (O1.out.below b2); have M2 := Lib.hid m2; have B2 := Lib.hid (below_on B1.out b2); clear m2 o2 b2))
  go_ret2
  exact ⟨_, _, L1, L2, rfl, M1.out, M2.out, O12.out, O2.out, B2.out⟩

set_option maxRecDepth 100000 in
set_option maxHeartbeats 4000000 in
/-- The reference's Of. -/
theorem rof19_any (f t : Int) (v : Value) (l : List En) (w : World) (hv : Ens w v l) (hm : l.length ≤ 1000) :
    Calls Tryd.prog 10 #[v, .int .i64 f, .int .i64 t] w fun e w' => ∃ v1 v2, e = .returned (.tuple #[v1, v2]) ∧ Ens w' v1 (l.filter (sentB f t)) ∧ Ens w' v2 (l.filter (takenB f t)) ∧ Below w.heap.size w w' := by
  obtain ⟨i0, hi0, hz0, hz1, hz2⟩ := info_parts rentry_info
  obtain ⟨A, n, c, rfl, HN, HV⟩ := hv.open_
  rw [HN.out] at hm
  clear hv
  go_enter Tryd.func10, Tryd.ntmps10
  go_wp2
  go_loopw [8, 9, 10] (fun sv tv iv wr => ∃ (k m1 m2 : Nat) (B1 B2 : Option Addr) (d1 d2 : Nat) (L1 L2 : List (En × Value)), k ≤ n ∧ m1 ≤ k ∧ m2 ≤ k ∧ iv = .int .i64 k ∧ sv = .slice B1 m1 d1 ∧ tv = .slice B2 m2 d2 ∧ Hid (L1.map (·.1) = (l.take k).filter (sentB f t)) ∧ Hid (L2.map (·.1) = (l.take k).filter (takenB f t)) ∧ Hid (L1.length = m1) ∧ Hid (L2.length = m2) ∧ Hid (wr.ownsRow w.heap.size 41 8 (.slice B1 m1 d1) m1 (enF L1)) ∧ Hid (wr.ownsRow w.heap.size 41 8 (.slice B2 m2 d2) m2 (enF L2)) ∧ Hid (∀ b, (Value.slice B1 m1 d1).ownBlock = some b → (Value.slice B2 m2 d2).ownBlock ≠ some b) ∧ Hid (∀ p ∈ L1, Ld w p.1 p.2) ∧ Hid (∀ p ∈ L2, Ld w p.1 p.2) ∧ Hid (Below w.heap.size w wr)) (fun _ _ iv _ => n + 1 - (intOf iv).toNat)
  case atStart => exact ⟨0, 0, 0, none, none, 0, 0, [], [], Nat.zero_le _, Nat.le_refl _, Nat.le_refl _, rfl, rfl, rfl, Lib.hid rfl, Lib.hid rfl, Lib.hid rfl, Lib.hid rfl, Lib.hid (World.ownsRow_nil _ _ _ _), Lib.hid (World.ownsRow_nil _ _ _ _), Lib.hid (fun b h => by cases h), Lib.hid (fun p hp => by cases hp), Lib.hid (fun p hp => by cases hp), Lib.hid (Below.refl _ _)⟩
  case round =>
    obtain ⟨k, m1, m2, B1, B2, d1, d2, L1, L2, hk, hk1, hk2, rfl, rfl, rfl, M1, M2, N1, N2, O1, O2, HD, E1, E2, HB⟩ := hrel
    by_cases hlt : k < n
    · obtain ⟨x, hx⟩ : ∃ x, l[k]? = some x := ⟨_, List.getElem?_eq_getElem (by rw [HN.out]; exact hlt)⟩
      obtain ⟨g1, o1, u, e1, hg1, hl1, y0, y1, y2, y3, y4, y5, y6, y7⟩ := HV.out.cells hx
      obtain ⟨g, o, rfl⟩ : ∃ g o, A = some ⟨g, o, none⟩ := ⟨g1, o1, e1⟩
      injection e1 with e1
      injection e1 with e1 e2
      subst e1 e2
      have c0 := (HB.out.cell (p := ⟨g, o + k * 8, none⟩) hg1).trans y0
      have c1 := (HB.out.cell (p := ⟨g, o + k * 8 + 1, none⟩) hg1).trans y1
      have c2 := (HB.out.cell (p := ⟨g, o + k * 8 + 2, none⟩) hg1).trans y2
      have c3 := (HB.out.cell (p := ⟨g, o + k * 8 + 3, none⟩) hg1).trans y3
      have c4 := (HB.out.cell (p := ⟨g, o + k * 8 + 4, none⟩) hg1).trans y4
      have c5 := (HB.out.cell (p := ⟨g, o + k * 8 + 5, none⟩) hg1).trans y5
      have c6 := (HB.out.cell (p := ⟨g, o + k * 8 + 6, none⟩) hg1).trans y6
      have c7 := (HB.out.cell (p := ⟨g, o + k * 8 + 7, none⟩) hg1).trans y7
      clear y0 y1 y2 y3 y4 y5 y6 y7
      obtain ⟨Au, nu, cu, rfl, HNU, HU⟩ := ld_open hl1
      have hkn : (k : Int) < (n : Int) := by omega
      have hin : decide ((k : Int) < (n : Int)) = true := by simpa using hkn
      have HX := Lib.hid hx
      have hsz := HB.out.size
      clear hl1 hx
      by_cases hk3 : x.kind = 1
      · have k1 : (x.kind == 1) = true := by simpa using (by omega : x.kind = 1)
        have k2 : (x.kind == 2) = false := by simpa using (by omega : x.kind ≠ 2)
        have k3 : (x.kind == 3) = false := by simpa using (by omega : x.kind ≠ 3)
        clear hk3
        by_cases h2 : x.core = f
        · have e2 : (x.core == f) = true := by simpa using h2
          by_cases h3 : x.peer = t
          · have e3 : (x.peer == t) = true := by simpa using h3
            clear h2 h3
            have HS : Hid (sentB f t x = true) := Lib.hid (by simp [sentB, k1, e2, e3])
            have HT : Hid (takenB f t x = false) := Lib.hid (by simp [takenB, k2, k3])
            go_wp2_with (at_builtin; go_must ((refine app19_walk rfl (.tmp 37) (.tmp 39) 27 rfl w.heap.size 41 i0 _ 8 80 Tryd.underlying27 hi0 hz0 hz1 hz2 rfl (by omega) _ _ _ rfl (own19_below O1.out (show Below wr.heap.size wr _ from by go_grown)) _ 1 1 (row19 x (.slice Au nu cu)) rfl rfl (cells_new19 (wr.alloc (.cells (row19 x (.slice Au nu cu)).toArray 41)) (row19 x (.slice Au nu cu)) 41 (wr.heap.size + 1) (by simp)) (row19_one rfl) (by unfold maxLen; omega) (by omega) (by simp; omega) ?_); intro v3 w3 hown3 hg3 hat3; obtain ⟨g', cap', rfl, hbg, hlt'⟩ := hown3.form (by omega); have O3 : Hid (w3.ownsRow w.heap.size 41 8 (.slice (some ⟨g', 0, none⟩) (m1 + 1) cap') (m1 + 1) (enF (L1 ++ [(x, .slice Au nu cu)]))) := Lib.hid (by rw [enF_append]; exact hown3); have OO3 := Lib.hid (own19_only (own19_below O2.out (show Below wr.heap.size wr _ from by go_grown)) (Only.of_own19 hg3) (fun b hb e => HD.out b e hb)); have B3 : Hid (Below w.heap.size w w3) := Lib.hid (below_own (below_on HB.out (show Below wr.heap.size wr _ from by go_grown)) (by simp; omega) (own19_below O1.out (show Below wr.heap.size wr _ from by go_grown)) hg3); have D3 := Lib.hid (disj19 HD.out hat3 (fun b hb => Nat.lt_of_lt_of_le (O2.out.lt b hb).2 (show Below wr.heap.size wr _ from by go_grown).size)); have q2 : w3.cell? ⟨wr.heap.size, 2, none⟩ = some (.int .i64 x.kind) := (Row.of_grown (Row.below (show Row (wr.alloc (.cells (row19 x (.slice Au nu cu)).toArray 41)) wr.heap.size 41 (row19 x (.slice Au nu cu)) from Row.new _ _ _) (below_al _ _)) hg3 (fun e => by have := (O1.out.lt _ e.symm).2; omega)).cell 2; clear hown3 hg3 hat3))
            go_roundw
            case rel => exact ⟨k + 1, m1 + 1, m2, some ⟨g', 0, none⟩, B2, cap', d2, L1 ++ [(x, .slice Au nu cu)], L2, by omega, by omega, by omega, by go_num, rfl, rfl, Lib.hid (by rw [List.map_append, M1.out, filter_yes HX.out HS.out]; rfl), Lib.hid (by rw [M2.out, filter_no HX.out HT.out]), Lib.hid (by rw [List.length_append, N1.out]; rfl), N2, O3, OO3, D3, Lib.hid (fun p hp => by
              rcases List.mem_append.1 hp with hp | hp
              · exact E1.out p hp
              · simp only [List.mem_cons, List.not_mem_nil, or_false] at hp
                subst hp
                exact HU.out), E2, B3⟩
            case measure => simp [intOf]; omega
          · have e3 : (x.peer == t) = false := by simpa using h3
            clear h2 h3
            have HS : Hid (sentB f t x = false) := Lib.hid (by simp [sentB, k1, e2, e3])
            have HT : Hid (takenB f t x = false) := Lib.hid (by simp [takenB, k2, k3])
            go_wp2
            go_roundw
            case rel => exact ⟨k + 1, m1, m2, B1, B2, d1, d2, L1, L2, by omega, by omega, by omega, by go_num, rfl, rfl, Lib.hid (by rw [M1.out, filter_no HX.out HS.out]), Lib.hid (by rw [M2.out, filter_no HX.out HT.out]), N1, N2, Lib.hid (own19_below O1.out (show Below wr.heap.size wr _ from by go_grown)), Lib.hid (own19_below O2.out (show Below wr.heap.size wr _ from by go_grown)), HD, E1, E2, Lib.hid (below_on HB.out (show Below wr.heap.size wr _ from by go_grown))⟩
            case measure => simp [intOf]; omega
        · have e2 : (x.core == f) = false := by simpa using h2
          clear h2
          have HS : Hid (sentB f t x = false) := Lib.hid (by simp [sentB, k1, e2])
          have HT : Hid (takenB f t x = false) := Lib.hid (by simp [takenB, k2, k3])
          go_wp2
          go_roundw
          case rel => exact ⟨k + 1, m1, m2, B1, B2, d1, d2, L1, L2, by omega, by omega, by omega, by go_num, rfl, rfl, Lib.hid (by rw [M1.out, filter_no HX.out HS.out]), Lib.hid (by rw [M2.out, filter_no HX.out HT.out]), N1, N2, Lib.hid (own19_below O1.out (show Below wr.heap.size wr _ from by go_grown)), Lib.hid (own19_below O2.out (show Below wr.heap.size wr _ from by go_grown)), HD, E1, E2, Lib.hid (below_on HB.out (show Below wr.heap.size wr _ from by go_grown))⟩
          case measure => simp [intOf]; omega
      by_cases hk4 : x.kind = 2
      · have k1 : (x.kind == 1) = false := by simpa using (by omega : x.kind ≠ 1)
        have k2 : (x.kind == 2) = true := by simpa using (by omega : x.kind = 2)
        have k3 : (x.kind == 3) = false := by simpa using (by omega : x.kind ≠ 3)
        clear hk3 hk4
        by_cases h2 : x.core = t
        · have e2 : (x.core == t) = true := by simpa using h2
          by_cases h3 : x.peer = f
          · have e3 : (x.peer == f) = true := by simpa using h3
            clear h2 h3
            have HS : Hid (sentB f t x = false) := Lib.hid (by simp [sentB, k1])
            have HT : Hid (takenB f t x = true) := Lib.hid (by simp [takenB, k2, k3, e2, e3])
            go_wp2_with (at_builtin; go_must ((refine app19_walk rfl (.tmp 61) (.tmp 63) 27 rfl w.heap.size 41 i0 _ 8 80 Tryd.underlying27 hi0 hz0 hz1 hz2 rfl (by omega) _ _ _ rfl (own19_below O2.out (show Below wr.heap.size wr _ from by go_grown)) _ 1 1 (row19 x (.slice Au nu cu)) rfl rfl (cells_new19 (wr.alloc (.cells (row19 x (.slice Au nu cu)).toArray 41)) (row19 x (.slice Au nu cu)) 41 (wr.heap.size + 1) (by simp)) (row19_one rfl) (by unfold maxLen; omega) (by omega) (by simp; omega) ?_); intro v3 w3 hown3 hg3 hat3; obtain ⟨g', cap', rfl, hbg, hlt'⟩ := hown3.form (by omega); have O3 : Hid (w3.ownsRow w.heap.size 41 8 (.slice (some ⟨g', 0, none⟩) (m2 + 1) cap') (m2 + 1) (enF (L2 ++ [(x, .slice Au nu cu)]))) := Lib.hid (by rw [enF_append]; exact hown3); have OO3 := Lib.hid (own19_only (own19_below O1.out (show Below wr.heap.size wr _ from by go_grown)) (Only.of_own19 hg3) (fun b hb e => HD.out b hb e)); have B3 : Hid (Below w.heap.size w w3) := Lib.hid (below_own (below_on HB.out (show Below wr.heap.size wr _ from by go_grown)) (by simp; omega) (own19_below O2.out (show Below wr.heap.size wr _ from by go_grown)) hg3); have D3 := Lib.hid (disj19 (fun b h1 h2 => HD.out b h2 h1) hat3 (fun b hb => Nat.lt_of_lt_of_le (O1.out.lt b hb).2 (show Below wr.heap.size wr _ from by go_grown).size)); clear hown3 hg3 hat3))
            go_roundw
            case rel => exact ⟨k + 1, m1, m2 + 1, B1, some ⟨g', 0, none⟩, d1, cap', L1, L2 ++ [(x, .slice Au nu cu)], by omega, by omega, by omega, by go_num, rfl, rfl, Lib.hid (by rw [M1.out, filter_no HX.out HS.out]), Lib.hid (by rw [List.map_append, M2.out, filter_yes HX.out HT.out]; rfl), N1, Lib.hid (by rw [List.length_append, N2.out]; rfl), OO3, O3, Lib.hid (fun b hb hb2 => D3.out b hb2 hb), E1, Lib.hid (fun p hp => by
              rcases List.mem_append.1 hp with hp | hp
              · exact E2.out p hp
              · simp only [List.mem_cons, List.not_mem_nil, or_false] at hp
                subst hp
                exact HU.out), B3⟩
            case measure => simp [intOf]; omega
          · have e3 : (x.peer == f) = false := by simpa using h3
            clear h2 h3
            have HS : Hid (sentB f t x = false) := Lib.hid (by simp [sentB, k1])
            have HT : Hid (takenB f t x = false) := Lib.hid (by simp [takenB, k2, k3, e2, e3])
            go_wp2
            go_roundw
            case rel => exact ⟨k + 1, m1, m2, B1, B2, d1, d2, L1, L2, by omega, by omega, by omega, by go_num, rfl, rfl, Lib.hid (by rw [M1.out, filter_no HX.out HS.out]), Lib.hid (by rw [M2.out, filter_no HX.out HT.out]), N1, N2, Lib.hid (own19_below O1.out (show Below wr.heap.size wr _ from by go_grown)), Lib.hid (own19_below O2.out (show Below wr.heap.size wr _ from by go_grown)), HD, E1, E2, Lib.hid (below_on HB.out (show Below wr.heap.size wr _ from by go_grown))⟩
            case measure => simp [intOf]; omega
        · have e2 : (x.core == t) = false := by simpa using h2
          clear h2
          have HS : Hid (sentB f t x = false) := Lib.hid (by simp [sentB, k1])
          have HT : Hid (takenB f t x = false) := Lib.hid (by simp [takenB, k2, k3, e2])
          go_wp2
          go_roundw
          case rel => exact ⟨k + 1, m1, m2, B1, B2, d1, d2, L1, L2, by omega, by omega, by omega, by go_num, rfl, rfl, Lib.hid (by rw [M1.out, filter_no HX.out HS.out]), Lib.hid (by rw [M2.out, filter_no HX.out HT.out]), N1, N2, Lib.hid (own19_below O1.out (show Below wr.heap.size wr _ from by go_grown)), Lib.hid (own19_below O2.out (show Below wr.heap.size wr _ from by go_grown)), HD, E1, E2, Lib.hid (below_on HB.out (show Below wr.heap.size wr _ from by go_grown))⟩
          case measure => simp [intOf]; omega
      by_cases hk5 : x.kind = 3
      · have k1 : (x.kind == 1) = false := by simpa using (by omega : x.kind ≠ 1)
        have k2 : (x.kind == 2) = false := by simpa using (by omega : x.kind ≠ 2)
        have k3 : (x.kind == 3) = true := by simpa using (by omega : x.kind = 3)
        clear hk3 hk4 hk5
        by_cases h2 : x.core = t
        · have e2 : (x.core == t) = true := by simpa using h2
          by_cases h3 : x.peer = f
          · have e3 : (x.peer == f) = true := by simpa using h3
            clear h2 h3
            have HS : Hid (sentB f t x = false) := Lib.hid (by simp [sentB, k1])
            have HT : Hid (takenB f t x = true) := Lib.hid (by simp [takenB, k2, k3, e2, e3])
            go_wp2_with (at_builtin; go_must ((refine app19_walk rfl (.tmp 61) (.tmp 63) 27 rfl w.heap.size 41 i0 _ 8 80 Tryd.underlying27 hi0 hz0 hz1 hz2 rfl (by omega) _ _ _ rfl (own19_below O2.out (show Below wr.heap.size wr _ from by go_grown)) _ 1 1 (row19 x (.slice Au nu cu)) rfl rfl (cells_new19 (wr.alloc (.cells (row19 x (.slice Au nu cu)).toArray 41)) (row19 x (.slice Au nu cu)) 41 (wr.heap.size + 1) (by simp)) (row19_one rfl) (by unfold maxLen; omega) (by omega) (by simp; omega) ?_); intro v3 w3 hown3 hg3 hat3; obtain ⟨g', cap', rfl, hbg, hlt'⟩ := hown3.form (by omega); have O3 : Hid (w3.ownsRow w.heap.size 41 8 (.slice (some ⟨g', 0, none⟩) (m2 + 1) cap') (m2 + 1) (enF (L2 ++ [(x, .slice Au nu cu)]))) := Lib.hid (by rw [enF_append]; exact hown3); have OO3 := Lib.hid (own19_only (own19_below O1.out (show Below wr.heap.size wr _ from by go_grown)) (Only.of_own19 hg3) (fun b hb e => HD.out b hb e)); have B3 : Hid (Below w.heap.size w w3) := Lib.hid (below_own (below_on HB.out (show Below wr.heap.size wr _ from by go_grown)) (by simp; omega) (own19_below O2.out (show Below wr.heap.size wr _ from by go_grown)) hg3); have D3 := Lib.hid (disj19 (fun b h1 h2 => HD.out b h2 h1) hat3 (fun b hb => Nat.lt_of_lt_of_le (O1.out.lt b hb).2 (show Below wr.heap.size wr _ from by go_grown).size)); clear hown3 hg3 hat3))
            go_roundw
            case rel => exact ⟨k + 1, m1, m2 + 1, B1, some ⟨g', 0, none⟩, d1, cap', L1, L2 ++ [(x, .slice Au nu cu)], by omega, by omega, by omega, by go_num, rfl, rfl, Lib.hid (by rw [M1.out, filter_no HX.out HS.out]), Lib.hid (by rw [List.map_append, M2.out, filter_yes HX.out HT.out]; rfl), N1, Lib.hid (by rw [List.length_append, N2.out]; rfl), OO3, O3, Lib.hid (fun b hb hb2 => D3.out b hb2 hb), E1, Lib.hid (fun p hp => by
              rcases List.mem_append.1 hp with hp | hp
              · exact E2.out p hp
              · simp only [List.mem_cons, List.not_mem_nil, or_false] at hp
                subst hp
                exact HU.out), B3⟩
            case measure => simp [intOf]; omega
          · have e3 : (x.peer == f) = false := by simpa using h3
            clear h2 h3
            have HS : Hid (sentB f t x = false) := Lib.hid (by simp [sentB, k1])
            have HT : Hid (takenB f t x = false) := Lib.hid (by simp [takenB, k2, k3, e2, e3])
            go_wp2
            go_roundw
            case rel => exact ⟨k + 1, m1, m2, B1, B2, d1, d2, L1, L2, by omega, by omega, by omega, by go_num, rfl, rfl, Lib.hid (by rw [M1.out, filter_no HX.out HS.out]), Lib.hid (by rw [M2.out, filter_no HX.out HT.out]), N1, N2, Lib.hid (own19_below O1.out (show Below wr.heap.size wr _ from by go_grown)), Lib.hid (own19_below O2.out (show Below wr.heap.size wr _ from by go_grown)), HD, E1, E2, Lib.hid (below_on HB.out (show Below wr.heap.size wr _ from by go_grown))⟩
            case measure => simp [intOf]; omega
        · have e2 : (x.core == t) = false := by simpa using h2
          clear h2
          have HS : Hid (sentB f t x = false) := Lib.hid (by simp [sentB, k1])
          have HT : Hid (takenB f t x = false) := Lib.hid (by simp [takenB, k2, k3, e2])
          go_wp2
          go_roundw
          case rel => exact ⟨k + 1, m1, m2, B1, B2, d1, d2, L1, L2, by omega, by omega, by omega, by go_num, rfl, rfl, Lib.hid (by rw [M1.out, filter_no HX.out HS.out]), Lib.hid (by rw [M2.out, filter_no HX.out HT.out]), N1, N2, Lib.hid (own19_below O1.out (show Below wr.heap.size wr _ from by go_grown)), Lib.hid (own19_below O2.out (show Below wr.heap.size wr _ from by go_grown)), HD, E1, E2, Lib.hid (below_on HB.out (show Below wr.heap.size wr _ from by go_grown))⟩
          case measure => simp [intOf]; omega
      have k1 : (x.kind == 1) = false := by simpa using (by omega : x.kind ≠ 1)
      have k2 : (x.kind == 2) = false := by simpa using (by omega : x.kind ≠ 2)
      have k3 : (x.kind == 3) = false := by simpa using (by omega : x.kind ≠ 3)
      clear hk3 hk4 hk5
      have HS : Hid (sentB f t x = false) := Lib.hid (by simp [sentB, k1])
      have HT : Hid (takenB f t x = false) := Lib.hid (by simp [takenB, k2, k3])
      go_wp2
      go_roundw
      case rel => exact ⟨k + 1, m1, m2, B1, B2, d1, d2, L1, L2, by omega, by omega, by omega, by go_num, rfl, rfl, Lib.hid (by rw [M1.out, filter_no HX.out HS.out]), Lib.hid (by rw [M2.out, filter_no HX.out HT.out]), N1, N2, Lib.hid (own19_below O1.out (show Below wr.heap.size wr _ from by go_grown)), Lib.hid (own19_below O2.out (show Below wr.heap.size wr _ from by go_grown)), HD, E1, E2, Lib.hid (below_on HB.out (show Below wr.heap.size wr _ from by go_grown))⟩
      case measure => simp [intOf]; omega
    · obtain rfl : n = k := by omega
      have hin : decide ((n : Int) < (n : Int)) = false := by simp
      have e1 : l.take n = l := by rw [← HN.out, List.take_length]
      have P1 := Lib.hid (OwnE.ens (⟨by rw [N1.out]; exact O1.out, fun p hp => (E1.out p hp).below HB.out⟩ : OwnE wr w.heap.size 41 (.slice B1 m1 d1) L1))
      have P2 := Lib.hid (OwnE.ens (⟨by rw [N2.out]; exact O2.out, fun p hp => (E2.out p hp).below HB.out⟩ : OwnE wr w.heap.size 41 (.slice B2 m2 d2) L2))
      rw [M1.out, e1] at P1
      rw [M2.out, e1] at P2
      go_wp2
      go_ret2
      exact ⟨_, _, rfl, P1.out, P2.out, HB.out⟩

#print axioms of19_any
#print axioms rof19_any
end Go.Proofs.YtikjokhpombjjaaDoor
