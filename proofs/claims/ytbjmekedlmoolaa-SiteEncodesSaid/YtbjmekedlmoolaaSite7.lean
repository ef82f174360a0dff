/-
  Layer 8 (site): the reference's Decode and Count.
  Conditions: those that each theorem states.
-/
import Derived.Test.YtbjmekedlmoolaaSite6
namespace Go.Proofs.Ytbjmekedlmoolaa
open Go.ChangeShapes Go.WideShapes Go.ChangeAt Go.RowKit

def rDecAt (w wr : World) (c n l : Int) : Prop :=
  Row wr w.heap.size 31 [.int .i64 c, .int .i64 n, .int .i64 l] ∧ Row wr (w.heap.size + 1) 28 [.int .i64 0, .int .i64 0, .int .i64 0] ∧ Below w.heap.size w wr

set_option maxRecDepth 100000 in
set_option maxHeartbeats 1000000 in
theorem rdecode_no (c n l a : Int) (w : World) (h : ¬ okPlan c n l) :
    Calls Try.prog 7 #[v3 c n l, .int .i64 a] w fun e w' => e = .returned (.tuple #[v3 0 0 0, .bool false]) ∧ Below w.heap.size w w' := by
  have HR := Lib.hid (rright8_any c n l)
  rw [decide_eq_false h] at HR
  clear h
  have HN : Hid (∀ W, Below ((w.alloc (.cells #[.int .i64 c, .int .i64 n, .int .i64 l] 31)).alloc (.cells #[.int .i64 0, .int .i64 0, .int .i64 0] 28)).heap.size ((w.alloc (.cells #[.int .i64 c, .int .i64 n, .int .i64 l] 31)).alloc (.cells #[.int .i64 0, .int .i64 0, .int .i64 0] 28)) W → rDecAt w W c n l) :=
    Lib.hid (fun W hb => ⟨((Row.new w _ #[.int .i64 c, .int .i64 n, .int .i64 l]).below (below_al _ _)).below hb, by simpa using (Row.new (w.alloc (.cells #[.int .i64 c, .int .i64 n, .int .i64 l] 31)) 28 #[.int .i64 0, .int .i64 0, .int .i64 0]).below hb, below_on (below_on (below_al _ _) (below_al _ _)) hb⟩)
  unfold v3 at HR ⊢
  go_enter Try.func7, Try.ntmps7
  go_wp2_with fail
  refine (HR.out _).mono ?_
  rintro e w1 ⟨rfl, hb1⟩
  have HA := Lib.hid (HN.out _ hb1)
  have h2 := HA.out.2.1
  have d0 := h2.cell 0
  have d1 := h2.cell 1
  have d2 := h2.cell 2
  have f0 := h2.soft 0
  have f1 := h2.soft 1
  have f2 := h2.soft 2
  simp only [List.getElem?_cons_zero, List.getElem?_cons_succ] at d0 d1 d2
  clear h2 hb1 HN
  go_wp2
  refine bodyPost_ret (v := .tuple #[.agg #[.int .i64 0, .int .i64 0, .int .i64 0], .bool false]) (by simp [results, Try.results7, go_sem, *]) rfl ⟨rfl, ?_⟩
  exact (((HA.out.2.2.setCell (p := ⟨w.heap.size + 1, 0, none⟩) (by simp) _).setCell (p := ⟨w.heap.size + 1, 1, none⟩) (by simp) _).setCell (p := ⟨w.heap.size + 1, 2, none⟩) (by simp) _)

/-- What the reference's Decode answers for a valid plan. -/
def RDecP (c n l a : Int) (w : World) (e : Ending) (w' : World) : Prop :=
  (∃ K i r b, e = .returned (.tuple #[v3 K i r, .bool b]) ∧ Dec c n l a K i r b) ∧ Below w.heap.size w w'

theorem RDecP.yes {c n l a : Int} {w w' : World} (K i r : Int) (ho : okPlan c n l) (hs : IsSpot c n l a K i r) (hb : Below w.heap.size w w') :
    RDecP c n l a w (.returned (.tuple #[.agg #[.int .i64 K, .int .i64 i, .int .i64 r], .bool true])) w' := ⟨⟨K, i, r, true, rfl, .inl ⟨rfl, ho, hs⟩⟩, hb⟩

set_option maxRecDepth 100000 in
set_option maxHeartbeats 4000000 in
theorem rdecode_yes (C L : Nat) (n a : Int) (w : World) (h : okPlan C n L) :
    Calls Try.prog 7 #[v3 C n L, .int .i64 a] w (RDecP C n L a w) := by
  have HR := Lib.hid (rright8_any C n L)
  rw [decide_eq_true h] at HR
  have HO := Lib.hid h
  unfold okPlan at h
  obtain ⟨hC1, hC2, hn1, hn2, hL1, hL2⟩ := h
  have HN : Hid (∀ W, Below ((w.alloc (.cells #[.int .i64 C, .int .i64 n, .int .i64 L] 31)).alloc (.cells #[.int .i64 0, .int .i64 0, .int .i64 0] 28)).heap.size ((w.alloc (.cells #[.int .i64 C, .int .i64 n, .int .i64 L] 31)).alloc (.cells #[.int .i64 0, .int .i64 0, .int .i64 0] 28)) W → rDecAt w W C n L) :=
    Lib.hid (fun W hb => ⟨((Row.new w _ #[.int .i64 C, .int .i64 n, .int .i64 L]).below (below_al _ _)).below hb, by simpa using (Row.new (w.alloc (.cells #[.int .i64 C, .int .i64 n, .int .i64 L] 31)) 28 #[.int .i64 0, .int .i64 0, .int .i64 0]).below hb, below_on (below_on (below_al _ _) (below_al _ _)) hb⟩)
  unfold v3 at HR ⊢
  by_cases hr : 0 ≤ a ∧ a < n
  · have t0 : decide (a ≥ 0) = true := by simpa using hr.1
    have t1 : decide (a < n) = true := by simpa using hr.2
    have HQ := Lib.hid hr
    clear hr
    go_enter Try.func7, Try.ntmps7
    go_wp2_with fail
    refine (HR.out _).mono ?_
    rintro e w1 ⟨rfl, hb1⟩
    have HA := Lib.hid (HN.out _ hb1)
    have h1 := HA.out.1
    have c1 := h1.cell 1
    have h2 := HA.out.2.1
    have d0 := h2.cell 0
    have d1 := h2.cell 1
    have d2 := h2.cell 2
    have f0 := h2.soft 0
    have f1 := h2.soft 1
    have f2 := h2.soft 2
    simp only [List.getElem?_cons_zero, List.getElem?_cons_succ] at d0 d1 d2 c1
    clear h1 h2 hb1 HN
    go_wp2
    refine bodyPost_ret (v := .tuple #[.agg #[.int .i64 1, .int .i64 0, .int .i64 a], .bool true]) (by simp [results, Try.results7, go_sem, *]) rfl (RDecP.yes _ _ _ HO.out (.inl ⟨rfl, rfl, rfl, HQ.out⟩) ?_)
    exact (((HA.out.2.2.setCell (p := ⟨w.heap.size + 1, 0, none⟩) (by simp) _).setCell (p := ⟨w.heap.size + 1, 1, none⟩) (by simp) _).setCell (p := ⟨w.heap.size + 1, 2, none⟩) (by simp) _)
  · have hc : ¬ 0 ≤ a ∨ 0 ≤ a ∧ ¬ a < n := by omega
    have HQ := Lib.hid hr
    clear hr
    rcases hc with h0 | ⟨h0, h1⟩
    all_goals
      first
        | (have t0 : decide (a ≥ 0) = true := by simpa using h0)
        | (have t0 : decide (a ≥ 0) = false := by simpa using h0)
      try (have t1 : decide (a < n) = false := by simpa using h1)
      go_enter Try.func7, Try.ntmps7
      go_wp2_with fail
      refine (HR.out _).mono ?_
      rintro e w1 ⟨rfl, hb1⟩
      have HA := Lib.hid (HN.out _ hb1)
      have g1 := HA.out.1
      have c0 := g1.cell 0
      have c1 := g1.cell 1
      have c2 := g1.cell 2
      have g2 := HA.out.2.1
      have d0 := g2.cell 0
      have d1 := g2.cell 1
      have d2 := g2.cell 2
      have f0 := g2.soft 0
      have f1 := g2.soft 1
      have f2 := g2.soft 2
      simp only [List.getElem?_cons_zero, List.getElem?_cons_succ] at d0 d1 d2 c0 c1 c2
      clear g1 g2 hb1 HN
      go_wp2
      clear h0 t0
      try clear h1 t1
      go_loop [6] (fun i => ∃ k : Nat, k ≤ C ∧ i = .int .i64 k ∧ Hid (∀ j : Nat, j < k → a ≠ 66048 + j ∧ ∀ r : Nat, r < 3 → a ≠ 65536 + 16 * j + r)) (fun i => C - (intOf i).toNat)
      case atStart => exact ⟨0, Nat.zero_le _, rfl, Lib.hid (fun j hj => by omega)⟩
      case round =>
        obtain ⟨k, hk, rfl, HJ⟩ := hrel
        by_cases hlt : k < C
        · go_wp2
          go_loop [7] (fun i => ∃ r : Nat, r ≤ 3 ∧ i = .int .i64 r ∧ Hid (∀ r' : Nat, r' < r → a ≠ 65536 + 16 * k + r')) (fun i => 3 - (intOf i).toNat)
          case atStart => exact ⟨0, Nat.zero_le _, rfl, Lib.hid (fun j hj => by omega)⟩
          case round =>
            obtain ⟨r, hr, rfl, HK⟩ := hrel
            by_cases hr3 : r < 3
            · by_cases ha : a = 65536 + 16 * k + r
              · have b0 : (a == 65536 + 16 * (k : Int) + (r : Int)) = true := by simpa using ha
                go_wp2
                refine bodyPost_ret (v := .tuple #[.agg #[.int .i64 2, .int .i64 k, .int .i64 r], .bool true]) (by simp [results, Try.results7, go_sem, *]) rfl (RDecP.yes _ _ _ HO.out (.inr (.inl ⟨rfl, by omega, by omega, by omega, by omega, by omega⟩)) ?_)
                exact (((HA.out.2.2.setCell (p := ⟨w.heap.size + 1, 0, none⟩) (by simp) _).setCell (p := ⟨w.heap.size + 1, 1, none⟩) (by simp) _).setCell (p := ⟨w.heap.size + 1, 2, none⟩) (by simp) _)
              · have b0 : (a == 65536 + 16 * (k : Int) + (r : Int)) = false := by simpa using ha
                have HX := Lib.hid ha
                clear ha
                go_wp2
                go_round
                case rel => exact ⟨r + 1, by omega, by go_num, Lib.hid (fun r' h' => by
                  by_cases e : r' = r
                  · subst e; exact HX.out
                  · exact HK.out r' (by omega))⟩
                case measure => simp [intOf]; omega
            · obtain rfl : r = 3 := by omega
              by_cases ha : a = 66048 + k
              · have b0 : (a == 66048 + (k : Int)) = true := by simpa using ha
                go_wp2
                refine bodyPost_ret (v := .tuple #[.agg #[.int .i64 4, .int .i64 k, .int .i64 0], .bool true]) (by simp [results, Try.results7, go_sem, *]) rfl (RDecP.yes _ _ _ HO.out (.inr (.inr (.inr ⟨rfl, by omega, by omega, by omega, by omega⟩))) ?_)
                exact (((HA.out.2.2.setCell (p := ⟨w.heap.size + 1, 0, none⟩) (by simp) _).setCell (p := ⟨w.heap.size + 1, 1, none⟩) (by simp) _).setCell (p := ⟨w.heap.size + 1, 2, none⟩) (by simp) _)
              · have b0 : (a == 66048 + (k : Int)) = false := by simpa using ha
                have HX := Lib.hid ha
                clear ha
                go_wp2
                go_round
                case rel => exact ⟨k + 1, by omega, by go_num, Lib.hid (fun j hj => by
                  by_cases e : j = k
                  · subst e; exact ⟨HX.out, HK.out⟩
                  · exact HJ.out j (by omega))⟩
                case measure => simp [intOf]; omega
        · obtain rfl : k = C := by omega
          go_wp2
          go_loop [8] (fun i => ∃ k : Nat, k ≤ L ∧ i = .int .i64 k ∧ Hid (∀ j : Nat, j < k → a ≠ 65792 + j)) (fun i => L - (intOf i).toNat)
          case atStart => exact ⟨0, Nat.zero_le _, rfl, Lib.hid (fun j hj => by omega)⟩
          case round =>
            obtain ⟨r, hr, rfl, HK⟩ := hrel
            by_cases hlt2 : r < L
            · by_cases ha : a = 65792 + r
              · have b0 : (a == 65792 + (r : Int)) = true := by simpa using ha
                go_wp2
                refine bodyPost_ret (v := .tuple #[.agg #[.int .i64 3, .int .i64 r, .int .i64 0], .bool true]) (by simp [results, Try.results7, go_sem, *]) rfl (RDecP.yes _ _ _ HO.out (.inr (.inr (.inl ⟨rfl, by omega, by omega, by omega, by omega⟩))) ?_)
                exact (((HA.out.2.2.setCell (p := ⟨w.heap.size + 1, 0, none⟩) (by simp) _).setCell (p := ⟨w.heap.size + 1, 1, none⟩) (by simp) _).setCell (p := ⟨w.heap.size + 1, 2, none⟩) (by simp) _)
              · have b0 : (a == 65792 + (r : Int)) = false := by simpa using ha
                have HX := Lib.hid ha
                clear ha
                go_wp2
                go_round
                case rel => exact ⟨r + 1, by omega, by go_num, Lib.hid (fun r' h' => by
                  by_cases e : r' = r
                  · subst e; exact HX.out
                  · exact HK.out r' (by omega))⟩
                case measure => simp [intOf]; omega
            · obtain rfl : r = L := by omega
              go_wp2
              refine bodyPost_ret (v := .tuple #[.agg #[.int .i64 0, .int .i64 0, .int .i64 0], .bool false]) (by simp [results, Try.results7, go_sem, *]) rfl ⟨⟨_, _, _, _, rfl, .inr ⟨rfl, rfl, rfl, rfl, fun _ K i r' hs => ?_⟩⟩, ?_⟩
              · have h1 := HQ.out
                have h2 := HJ.out i.toNat
                have h3 := HK.out i.toNat
                have h4 := fun hh => (h2 hh).2 r'.toNat
                unfold IsSpot at hs
                rcases hs with ⟨rfl, rfl, rfl, h5, h6⟩ | ⟨rfl, h5, h6, h7, h8, h9⟩ | ⟨rfl, h5, h6, h7, h8⟩ | ⟨rfl, h5, h6, h7, h8⟩
                · omega
                · have := h4 (by omega) (by omega); omega
                · have := h3 (by omega); omega
                · have := (h2 (by omega)).1; omega
              · exact (((HA.out.2.2.setCell (p := ⟨w.heap.size + 1, 0, none⟩) (by simp) _).setCell (p := ⟨w.heap.size + 1, 1, none⟩) (by simp) _).setCell (p := ⟨w.heap.size + 1, 2, none⟩) (by simp) _)

theorem rdecode_any (c n l a : Int) (w : World) :
    Calls Try.prog 7 #[v3 c n l, .int .i64 a] w (RDecP c n l a w) := by
  by_cases h : okPlan c n l
  · obtain ⟨C, rfl⟩ : ∃ C : Nat, c = C := ⟨c.toNat, by unfold okPlan at h; omega⟩
    obtain ⟨L, rfl⟩ : ∃ C : Nat, l = C := ⟨l.toNat, by unfold okPlan at h; omega⟩
    exact rdecode_yes C L n a w h
  · refine (rdecode_no c n l a w h).mono ?_
    rintro e w' ⟨rfl, hb⟩
    exact ⟨⟨_, _, _, _, rfl, .inr ⟨rfl, rfl, rfl, rfl, fun h' => absurd h' h⟩⟩, hb⟩

set_option maxRecDepth 100000 in
set_option maxHeartbeats 1000000 in
theorem rcount8_any (c n l : Int) (w : World) :
    Calls Try.prog 12 #[v3 c n l] w fun e w' => e = .returned (.int .i64 (cntP c n l)) ∧ Below w.heap.size w w' := by
  have HR := Lib.hid (rright8_any c n l)
  have HN : Hid (∀ W, Below (w.alloc (.cells #[.int .i64 c, .int .i64 n, .int .i64 l] 31)).heap.size (w.alloc (.cells #[.int .i64 c, .int .i64 n, .int .i64 l] 31)) W → Row W w.heap.size 31 [.int .i64 c, .int .i64 n, .int .i64 l] ∧ Below w.heap.size w W) :=
    Lib.hid (fun W hb => ⟨(Row.new w _ #[.int .i64 c, .int .i64 n, .int .i64 l]).below hb, below_on (below_al _ _) hb⟩)
  unfold v3 at HR ⊢
  by_cases h : okPlan c n l
  · rw [decide_eq_true h] at HR
    have HE : Hid (cntP c n l = n + 3 * c + c + l) := Lib.hid (by unfold cntP; rw [if_pos h])
    unfold okPlan at h
    obtain ⟨hC1, hC2, hn1, hn2, hL1, hL2⟩ := h
    go_enter Try.func12, Try.ntmps12
    go_wp2_with fail
    refine (HR.out _).mono ?_
    rintro e w1 ⟨rfl, hb1⟩
    have HA := Lib.hid (HN.out _ hb1)
    have h1 := HA.out.1
    have c0 := h1.cell 0
    have c1 := h1.cell 1
    have c2 := h1.cell 2
    simp only [List.getElem?_cons_zero, List.getElem?_cons_succ] at c0 c1 c2
    clear h1 hb1 HN
    go_wp2
    go_ret
    exact ⟨by rw [HE.out]; rfl, HA.out.2⟩
  · rw [decide_eq_false h] at HR
    have HE : Hid (cntP c n l = 0) := Lib.hid (by unfold cntP; rw [if_neg h])
    clear h
    go_enter Try.func12, Try.ntmps12
    go_wp2_with fail
    refine (HR.out _).mono ?_
    rintro e w1 ⟨rfl, hb1⟩
    have HA := Lib.hid (HN.out _ hb1)
    clear hb1 HN
    go_wp2
    go_ret
    exact ⟨by rw [HE.out]; rfl, HA.out.2⟩

#print axioms rdecode_any
#print axioms rcount8_any
end Go.Proofs.Ytbjmekedlmoolaa
