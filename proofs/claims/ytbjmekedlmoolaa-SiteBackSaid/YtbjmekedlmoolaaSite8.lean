/-
  Layer 8 (site): the reference's Encode; the example (alive).
  Conditions: those that each theorem states.
-/
import Derived.Test.YtbjmekedlmoolaaSite7
namespace Go.Proofs.Ytbjmekedlmoolaa
open Go.ChangeShapes Go.WideShapes Go.ChangeAt Go.RowKit

/-- What the reference's Encode keeps in memory. -/
def rEncAt (w wr : World) (c n l k i r : Int) : Prop :=
  Row wr w.heap.size 31 [.int .i64 c, .int .i64 n, .int .i64 l] ∧ Row wr (w.heap.size + 1) 28 [.int .i64 k, .int .i64 i, .int .i64 r] ∧ Below w.heap.size w wr

theorem rEncAt.below {w wr W : World} {c n l k i r : Int} (h : rEncAt w wr c n l k i r) (hb : Below wr.heap.size wr W) : rEncAt w W c n l k i r :=
  ⟨h.1.below hb, h.2.1.below hb, below_on h.2.2 hb⟩

/-- What Encode answers, and what it leaves. -/
def EncP (c n l k i r : Int) (w : World) (e : Ending) (w' : World) : Prop :=
  (∃ a b, e = .returned (.tuple #[.int .i64 a, .bool b]) ∧ Enc c n l k i r a b) ∧ Below w.heap.size w w'

/-- If something else than the spot stands at an address, the spot is not there. -/
theorem Dec.other {c n l a K i r k' i' r' : Int} (h : Dec c n l a K i r true) (hn : K ≠ k' ∨ (K = k' ∧ i ≠ i') ∨ (K = k' ∧ i = i' ∧ r ≠ r')) : okPlan c n l → ¬ IsSpot c n l a k' i' r' := by
  intro ho hs
  have := Dec.eq h (.inl ⟨rfl, ho, hs⟩ : Dec c n l a k' i' r' true)
  omega

theorem Dec.none_ {c n l a K i r : Int} (h : Dec c n l a K i r false) (k' i' r' : Int) : okPlan c n l → ¬ IsSpot c n l a k' i' r' := by
  intro ho hs
  rcases h with ⟨h, _⟩ | ⟨_, _, _, _, h⟩
  · cases h
  · exact h ho _ _ _ hs

theorem Dec.here {c n l a K i r : Int} (h : Dec c n l a K i r true) : okPlan c n l ∧ IsSpot c n l a K i r := by
  rcases h with ⟨_, h⟩ | ⟨h, _⟩
  · exact h
  · cases h

theorem ram_only {c n l i r : Int} (h : okPlan c n l → ¬ IsSpot c n l r 1 i r) : okPlan c n l → ∀ a, ¬ IsSpot c n l a 1 i r := by
  intro ho a hs
  refine h ho ?_
  unfold IsSpot at hs ⊢
  omega

theorem far_only {c n l k i r : Int} (hk : k ≠ 1) (h : ∀ a : Int, 65536 ≤ a → a < 66056 → okPlan c n l → ¬ IsSpot c n l a k i r) : okPlan c n l → ∀ a, ¬ IsSpot c n l a k i r := by
  intro ho a hs
  have ha : 65536 ≤ a ∧ a < 66056 := by unfold IsSpot at hs; unfold okPlan at ho; omega
  exact h a ha.1 ha.2 ho hs

set_option maxRecDepth 100000 in
set_option maxHeartbeats 2000000 in
theorem rencode_ram (c n l i r : Int) (w : World) :
    Calls Try.prog 15 #[v3 c n l, v3 1 i r] w (EncP c n l 1 i r w) := by
  have HD := Lib.hid (rdecode_any c n l r)
  have HN : Hid (rEncAt w ((w.alloc (.cells #[.int .i64 c, .int .i64 n, .int .i64 l] 31)).alloc (.cells #[.int .i64 1, .int .i64 i, .int .i64 r] 28)) c n l 1 i r) :=
    Lib.hid ⟨(Row.new w _ #[.int .i64 c, .int .i64 n, .int .i64 l]).below (below_al _ _), by simpa using Row.new (w.alloc (.cells #[.int .i64 c, .int .i64 n, .int .i64 l] 31)) 28 #[.int .i64 1, .int .i64 i, .int .i64 r], below_on (below_al _ _) (below_al _ _)⟩
  unfold v3 at HD ⊢
  go_enter Try.func15, Try.ntmps15
  go_wp2_with fail
  refine (HD.out _).mono ?_
  rintro e w1 ⟨⟨K, i2, r2, b, rfl, hdec⟩, hb1⟩
  have HA := Lib.hid (HN.out.below hb1)
  have HDEC := Lib.hid hdec
  have g2 := HA.out.2.1
  have d0 := g2.cell 0
  have d1 := g2.cell 1
  have d2 := g2.cell 2
  have hlt := g2.lt
  simp only [List.getElem?_cons_zero, List.getElem?_cons_succ] at d0 d1 d2
  clear g2 hb1 hdec HN
  unfold v3
  cases b
  · go_wp2
    go_ret2
    exact ⟨⟨_, _, rfl, .inr ⟨rfl, rfl, ram_only (HDEC.out.none_ _ _ _)⟩⟩, (HA.out.below (below_al _ _)).2.2⟩
  · by_cases hm : K = 1 ∧ i2 = i ∧ r2 = r
    · obtain ⟨e1, e2, e3⟩ := hm
      subst e1 e2 e3
      go_wp2
      go_ret2
      exact ⟨⟨_, _, rfl, .inl ⟨rfl, HDEC.out.here⟩⟩, (HA.out.below (below_al _ _)).2.2⟩
    · have hc : K ≠ 1 ∨ (K = 1 ∧ i2 ≠ i) ∨ (K = 1 ∧ i2 = i ∧ r2 ≠ r) := by omega
      have HO := Lib.hid (HDEC.out.other hc)
      clear hm
      rcases hc with e1 | ⟨e1, e2⟩ | ⟨e1, e2, e3⟩
      all_goals
        go_wp2
        go_ret2
        exact ⟨⟨_, _, rfl, .inr ⟨rfl, rfl, ram_only HO.out⟩⟩, (HA.out.below (below_al _ _)).2.2⟩

set_option maxRecDepth 100000 in
set_option maxHeartbeats 4000000 in
theorem rencode_far (c n l k i r : Int) (w : World) (hk : k ≠ 1) :
    Calls Try.prog 15 #[v3 c n l, v3 k i r] w (EncP c n l k i r w) := by
  have HD := Lib.hid (rdecode_any c n l)
  have HK := Lib.hid hk
  have b1 : (k == 1) = false := by simpa using hk
  have HN : Hid (rEncAt w ((w.alloc (.cells #[.int .i64 c, .int .i64 n, .int .i64 l] 31)).alloc (.cells #[.int .i64 k, .int .i64 i, .int .i64 r] 28)) c n l k i r) :=
    Lib.hid ⟨(Row.new w _ #[.int .i64 c, .int .i64 n, .int .i64 l]).below (below_al _ _), by simpa using Row.new (w.alloc (.cells #[.int .i64 c, .int .i64 n, .int .i64 l] 31)) 28 #[.int .i64 k, .int .i64 i, .int .i64 r], below_on (below_al _ _) (below_al _ _)⟩
  clear hk
  unfold v3 at HD ⊢
  go_enter Try.func15, Try.ntmps15
  go_wp2
  clear b1
  go_loopw [8] (fun j wr => ∃ J : Int, 65536 ≤ J ∧ J ≤ 66056 ∧ j = .int .i64 J ∧ Hid (rEncAt w wr c n l k i r) ∧ Hid (∀ a : Int, 65536 ≤ a → a < J → okPlan c n l → ¬ IsSpot c n l a k i r)) (fun j _ => (66056 - intOf j).toNat)
  case atStart => exact ⟨65536, by omega, by omega, rfl, HN, Lib.hid (fun a h1 h2 => by omega)⟩
  case round =>
    clear HN
    obtain ⟨J, hJ1, hJ2, rfl, HE, HJ⟩ := hrel
    have g1 := HE.out.1
    have c0 := g1.cell 0
    have c1 := g1.cell 1
    have c2 := g1.cell 2
    have hlt1 := g1.lt
    simp only [List.getElem?_cons_zero, List.getElem?_cons_succ] at c0 c1 c2
    clear g1
    by_cases hlt : J < 66056
    · have DJ := Lib.hid (HD.out J)
      go_wp2_with fail
      refine (DJ.out _).mono ?_
      rintro e w1 ⟨⟨K, i2, r2, b, rfl, hdec⟩, hb1⟩
      have HA := Lib.hid (HE.out.below hb1)
      have HDEC := Lib.hid hdec
      have g2 := HA.out.2.1
      have d0 := g2.cell 0
      have d1 := g2.cell 1
      have d2 := g2.cell 2
      have hlt := g2.lt
      simp only [List.getElem?_cons_zero, List.getElem?_cons_succ] at d0 d1 d2
      clear g2 hb1 hdec
      unfold v3
      cases b
      · go_wp2
        go_roundw
        case rel => exact ⟨J + 1, by omega, by omega, rfl, Lib.hid (HA.out.below (below_al _ _)), Lib.hid (fun a h1 h2 => by
          by_cases e : a = J
          · subst e; exact HDEC.out.none_ _ _ _
          · exact HJ.out a h1 (by omega))⟩
        case measure => simp [intOf]; omega
      · by_cases hm : K = k ∧ i2 = i ∧ r2 = r
        · obtain ⟨e1, e2, e3⟩ := hm
          subst e1 e2 e3
          go_wp2
          go_ret2
          exact ⟨⟨_, _, rfl, .inl ⟨rfl, HDEC.out.here⟩⟩, (HA.out.below (below_al _ _)).2.2⟩
        · have hc : K ≠ k ∨ (K = k ∧ i2 ≠ i) ∨ (K = k ∧ i2 = i ∧ r2 ≠ r) := by omega
          have HO := Lib.hid (HDEC.out.other hc)
          clear hm
          rcases hc with e1 | ⟨e1, e2⟩ | ⟨e1, e2, e3⟩
          all_goals
            go_wp2
            go_roundw
            case rel => exact ⟨J + 1, by omega, by omega, rfl, Lib.hid (HA.out.below (below_al _ _)), Lib.hid (fun a h1 h2 => by
              by_cases e : a = J
              · subst e; exact HO.out
              · exact HJ.out a h1 (by omega))⟩
            case measure => simp [intOf]; omega
    · obtain rfl : J = 66056 := by omega
      go_wp2
      go_ret2
      exact ⟨⟨_, _, rfl, .inr ⟨rfl, rfl, far_only HK.out HJ.out⟩⟩, HE.out.2.2⟩

theorem rencode_any (c n l k i r : Int) (w : World) :
    Calls Try.prog 15 #[v3 c n l, v3 k i r] w (EncP c n l k i r w) := by
  by_cases hk : k = 1
  · subst hk; exact rencode_ram c n l i r w
  · exact rencode_far c n l k i r w hk

#print axioms rencode_any
end Go.Proofs.Ytbjmekedlmoolaa
