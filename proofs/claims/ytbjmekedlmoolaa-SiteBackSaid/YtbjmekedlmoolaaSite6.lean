/-
  Layer 8 (site): Decode, Encode, Count of any plan, in the words of the map.
  Conditions: those that each theorem states.
-/
import Derived.Test.YtbjmekedlmoolaaSite5
namespace Go.Proofs.Ytbjmekedlmoolaa
open Go.ChangeShapes Go.WideShapes Go.ChangeAt Go.RowKit

theorem parts_ok (c n l : Int) (h : okPlan c n l) : PartsAt c n l pB (pI c l) (pS n) (pR n) where
  part k w := partOf_ok c n l k w h
  span k := by unfold okPlan at h; unfold pI pS; split <;> (try split) <;> (try split) <;> (try split) <;> simp_all <;> omega
  low k := by unfold pB; split <;> (try split) <;> (try split) <;> omega
  regs k := by unfold okPlan at h; unfold pR pS; split <;> (try split) <;> (try split) <;> omega
  most k i r hh := by
    have hs := part_spot.1 hh
    unfold okPlan at h
    obtain ⟨h1, h2, h3, h4⟩ := hh
    by_cases k1 : k = 1
    · subst k1
      simp only [pI, pS, pR, if_true] at h1 h2 h3 h4 ⊢
      obtain rfl : i = 0 := by omega
      simp; omega
    by_cases k2 : k = 2
    · subst k2; simp [pI, pS, pR] at h1 h2 h3 h4 ⊢; omega
    by_cases k3 : k = 3
    · subst k3; simp [pI, pS, pR] at h1 h2 h3 h4 ⊢; omega
    by_cases k4 : k = 4
    · subst k4; simp [pI, pS, pR] at h1 h2 h3 h4 ⊢; omega
    · simp [pI, k1, k2, k3, k4] at h2; omega
  prod k := by
    unfold okPlan at h
    unfold pI pR
    by_cases k1 : k = 1
    · subst k1; simp; omega
    by_cases k2 : k = 2
    · subst k2; simp; omega
    by_cases k3 : k = 3
    · subst k3; simp; omega
    by_cases k4 : k = 4
    · subst k4; simp; omega
    · simp [k1, k2, k3, k4]

theorem parts_no (c n l : Int) (h : ¬ okPlan c n l) : PartsAt c n l (fun _ => 0) (fun _ => 0) (fun _ => 0) (fun _ => 0) where
  part k w := partOf_no c n l k w h
  span _ := .inl rfl
  low _ := by omega
  regs _ := by omega
  most _ i r hh := by obtain ⟨h1, h2, _⟩ := hh; omega
  prod _ := by omega

theorem encode8_any (c n l k i r : Int) (w : World) :
    Calls Try.prog 14 #[v3 c n l, v3 k i r] w fun e w' => (∃ a b, e = .returned (.tuple #[.int .i64 a, .bool b]) ∧ Enc c n l k i r a b) ∧ Below w.heap.size w w' := by
  by_cases h : okPlan c n l
  · refine (encode_at c n l k i r _ _ _ _ (parts_ok c n l h) w).mono ?_
    rintro e w' ⟨⟨a, b, rfl, hr⟩, hb⟩
    refine ⟨⟨a, b, rfl, ?_⟩, hb⟩
    rcases hr with ⟨rfl, hh, rfl⟩ | ⟨rfl, hh, rfl⟩
    · exact .inl ⟨rfl, h, part_spot.1 hh⟩
    · refine .inr ⟨rfl, rfl, fun _ a hs => hh (part_spot.2 ?_)⟩
      have e : a = pB k + i * pS n k + r := by
        unfold IsSpot at hs
        rcases hs with ⟨rfl, rfl, h1, h2, h3⟩ | ⟨rfl, h1, h2, h3, h4, h5⟩ | ⟨rfl, h1, h2, h3, h4⟩ | ⟨rfl, h1, h2, h3, h4⟩ <;> simp [pB, pS] <;> omega
      rw [← e]; exact hs
  · refine (encode_at c n l k i r _ _ _ _ (parts_no c n l h) w).mono ?_
    rintro e w' ⟨⟨a, b, rfl, hr⟩, hb⟩
    refine ⟨⟨a, b, rfl, ?_⟩, hb⟩
    rcases hr with ⟨rfl, hh, rfl⟩ | ⟨rfl, hh, rfl⟩
    · obtain ⟨h1, h2, _⟩ := hh; omega
    · exact .inr ⟨rfl, rfl, fun h' => absurd h' h⟩

theorem decode8_any (c n l a : Int) (w : World) (ha : a ≤ 9223372036854775807) :
    Calls Try.prog 6 #[v3 c n l, .int .i64 a] w fun e w' => (∃ K i r b, e = .returned (.tuple #[v3 K i r, .bool b]) ∧ Dec c n l a K i r b) ∧ Below w.heap.size w w' := by
  by_cases h : okPlan c n l
  · refine (decode_at c n l a _ _ _ _ (parts_ok c n l h) w ha).mono ?_
    rintro e w' ⟨⟨K, i, r, b, rfl, hr⟩, hb⟩
    refine ⟨⟨K, i, r, b, rfl, ?_⟩, hb⟩
    rcases hr with ⟨rfl, h1, h2, hh, e⟩ | ⟨rfl, rfl, rfl, rfl, hn⟩
    · refine .inl ⟨rfl, h, ?_⟩
      rw [e]; exact part_spot.1 hh
    · refine .inr ⟨rfl, rfl, rfl, rfl, fun _ k i r hs => ?_⟩
      have hk : 1 ≤ k ∧ k ≤ 4 := by unfold IsSpot at hs; omega
      have e : a = pB k + i * pS n k + r := by
        unfold IsSpot at hs
        rcases hs with ⟨rfl, rfl, h1, h2, h3⟩ | ⟨rfl, h1, h2, h3, h4, h5⟩ | ⟨rfl, h1, h2, h3, h4⟩ | ⟨rfl, h1, h2, h3, h4⟩ <;> simp [pB, pS] <;> omega
      have hk2 : ((k.toNat : Nat) : Int) = k := Int.toNat_of_nonneg (by omega)
      have := hn k.toNat (by omega) (by omega) i r
      rw [hk2] at this
      exact this (part_spot.2 (by rw [← e]; exact hs)) e
  · refine (decode_at c n l a _ _ _ _ (parts_no c n l h) w ha).mono ?_
    rintro e w' ⟨⟨K, i, r, b, rfl, hr⟩, hb⟩
    refine ⟨⟨K, i, r, b, rfl, ?_⟩, hb⟩
    rcases hr with ⟨rfl, h1, h2, hh, e⟩ | ⟨rfl, rfl, rfl, rfl, hn⟩
    · obtain ⟨h1, h2, _⟩ := hh; omega
    · exact .inr ⟨rfl, rfl, rfl, rfl, fun h' => absurd h' h⟩

/-- How many addresses a plan's map has. -/
def cntP (c n l : Int) : Int := if okPlan c n l then n + 3 * c + c + l else 0

def sumT (g : Int → Int) : Nat → Int
  | 0 => - g 0
  | k + 1 => sumT g k + g k

theorem count8_any (c n l : Int) (w : World) :
    Calls Try.prog 11 #[v3 c n l] w fun e w' => e = .returned (.int .i64 (cntP c n l)) ∧ Below w.heap.size w w' := by
  by_cases h : okPlan c n l
  · have := count_at c n l _ _ _ _ (parts_ok c n l h) (sumT fun k => pI c l k * pR n k) (by simp [sumT]; omega) (fun k => rfl) w
    rw [show cntP c n l = sumT (fun k => pI c l k * pR n k) 5 from by simp [cntP, h, sumT, pI, pR]; omega]
    exact this
  · have := count_at c n l _ _ _ _ (parts_no c n l h) (fun _ => 0) rfl (fun k => by simp) w
    rw [show cntP c n l = 0 from by simp [cntP, h]]
    exact this

#print axioms encode8_any
#print axioms decode8_any
#print axioms count8_any
end Go.Proofs.Ytbjmekedlmoolaa
