/-
  Layer 13 (plot): the places in numbers; contracts of ends and part (program).
  Conditions: those that each theorem states.
-/
import Derived.Test.YtgdbaaoifnedbaaDoorPl3
namespace Go.Proofs.YtgdbaaoifnedbaaDoor
open Go.ChangeShapes Go.WideShapes Go.ChangeAt Go.RowKit

def endF (c n : Int) : Int := n / (c - 1)

def endT (c n : Int) : Int := if n / (c - 1) ≤ n % (c - 1) then n % (c - 1) + 1 else n % (c - 1)

theorem ends_ok {c n : Int} (hc : 2 ≤ c ∧ c ≤ 8) (hn : 0 ≤ n ∧ n < c * (c - 1)) : okPair c (endF c n) (endT c n) ∧ rankP c (endF c n) (endT c n) = n := by
  unfold okPair rankP endF endT
  rcases cores_of hc with rfl | rfl | rfl | rfl | rfl | rfl | rfl
  all_goals
    simp only [Int.reduceSub, Int.ediv_one, Int.emod_one] at *
    refine ⟨?_, ?_⟩
    · split <;> refine ⟨?_, ?_, ?_, ?_, ?_⟩ <;> omega
    · split <;> split <;> omega

theorem rank_inj {c f t f' t' : Int} (hc : 2 ≤ c ∧ c ≤ 8) (h : okPair c f t) (h' : okPair c f' t') (e : rankP c f t = rankP c f' t') : f = f' ∧ t = t' := by
  unfold okPair at h h'
  unfold rankP at e
  rcases cores_of hc with rfl | rfl | rfl | rfl | rfl | rfl | rfl
  all_goals
    simp only [Int.reduceSub] at *
    split at e <;> split at e <;> omega

theorem off_bd {R f s i : Int} (hR : okRing R) (h : okWord R f s i) : 0 ≤ offP R f s i ∧ offP R f s i < 4 + 11 * R := by
  unfold okWord at h
  unfold offP
  have := hR.bd
  rcases h with h | h | h
  · split
    · omega
    · omega
  · have : f = 5 ∨ f = 6 ∨ f = 7 := by omega
    rcases this with rfl | rfl | rfl <;> simp <;> omega
  · obtain ⟨rfl, h⟩ := h
    simp
    omega

theorem off_inj {R f s i f' s' i' : Int} (hR : okRing R) (h : okWord R f s i) (h' : okWord R f' s' i') (e : offP R f s i = offP R f' s' i') : f = f' ∧ s = s' ∧ i = i' := by
  have hb := hR.bd
  have key : ∀ f s i, okWord R f s i → (f ≤ 4 ∧ 1 ≤ f ∧ s = 0 ∧ i = 0 ∧ offP R f s i = f - 1) ∨ (f = 5 ∧ 0 ≤ s ∧ s < R ∧ i = 0 ∧ offP R f s i = 4 + s) ∨ (f = 6 ∧ 0 ≤ s ∧ s < R ∧ i = 0 ∧ offP R f s i = 4 + R + s) ∨ (f = 7 ∧ 0 ≤ s ∧ s < R ∧ i = 0 ∧ offP R f s i = 4 + 2 * R + s) ∨ (f = 8 ∧ 0 ≤ s ∧ s < R ∧ 0 ≤ i ∧ i < 8 ∧ offP R f s i = 4 + 3 * R + 8 * s + i) := by
    intro f s i h
    unfold okWord at h
    unfold offP
    rcases h with h | h | h
    · left
      rw [if_pos (by omega)]
      omega
    · have : f = 5 ∨ f = 6 ∨ f = 7 := by omega
      rcases this with rfl | rfl | rfl
      · right; left
        rw [if_neg (by omega), if_pos (by omega)]
        omega
      · right; right; left
        rw [if_neg (by omega), if_pos (by omega)]
        omega
      · right; right; right; left
        rw [if_neg (by omega), if_pos (by omega)]
        omega
    · obtain ⟨rfl, h⟩ := h
      right; right; right; right
      rw [if_neg (by omega), if_neg (by omega)]
      omega
  have k1 := key f s i h
  have k2 := key f' s' i' h'
  generalize offP R f s i = x at *
  generalize offP R f' s' i' = y at *
  subst e
  omega

/-- Where a word lies. -/
def spotP (c r f t k s i : Int) : Int := rankP c f t * (4 + 11 * r) + offP r k s i

theorem spot_inj {c r f t k s i f' t' k' s' i' : Int} (hc : 2 ≤ c ∧ c ≤ 8) (hr : okRing r) (h : okPair c f t) (g : okWord r k s i) (h' : okPair c f' t') (g' : okWord r k' s' i') (e : spotP c r f t k s i = spotP c r f' t' k' s' i') : f = f' ∧ t = t' ∧ k = k' ∧ s = s' ∧ i = i' := by
  have o1 := off_bd hr g
  have o2 := off_bd hr g'
  unfold spotP at e
  have hrk : rankP c f t = rankP c f' t' ∧ offP r k s i = offP r k' s' i' := by
    generalize rankP c f t = a at *
    generalize rankP c f' t' = a' at *
    generalize offP r k s i = o at *
    generalize offP r k' s' i' = o' at *
    unfold okRing at hr
    rcases hr with rfl | rfl | rfl | rfl | rfl | rfl <;> omega
  obtain ⟨rfl, rfl⟩ := rank_inj hc h h' hrk.1
  obtain ⟨rfl, rfl, rfl⟩ := off_inj hr g g' hrk.2
  exact ⟨rfl, rfl, rfl, rfl, rfl⟩

theorem spot_bd {c r f t k s i : Int} (hc : 2 ≤ c ∧ c ≤ 8) (hr : okRing r) (h : okPair c f t) (g : okWord r k s i) : 0 ≤ spotP c r f t k s i ∧ spotP c r f t k s i < c * (c - 1) * (4 + 11 * r) := by
  have o1 := off_bd hr g
  have o2 := rank_bd hc h
  unfold spotP
  generalize rankP c f t = a at *
  generalize offP r k s i = o at *
  generalize c * (c - 1) = n at *
  unfold okRing at hr
  rcases hr with rfl | rfl | rfl | rfl | rfl | rfl <;> omega

/-- Where the words of the field k begin, and how many there are. -/
def fstP (k : Nat) (R : Int) : Int := (tabRow k).1 + (tabRow k).2.1 * R

def lenP (k : Nat) (R : Int) : Int := slotsP (tabRow k).2.2.2 R * (tabRow k).2.2.1

theorem fst_bd {k : Nat} {R : Int} (hk : 1 ≤ k ∧ k ≤ 8) (hR : 2 ≤ R ∧ R ≤ 64) : 0 ≤ fstP k R ∧ fstP k R ≤ 200 ∧ 0 ≤ (tabRow k).2.1 * R ∧ (tabRow k).2.1 * R ≤ 200 ∧ (k = 1 → fstP k R = 0) ∧ (k < 8 → fstP (k + 1) R = fstP k R + lenP k R) ∧ (k = 8 → fstP k R + lenP k R = 4 + 11 * R) := by
  have : k = 1 ∨ k = 2 ∨ k = 3 ∨ k = 4 ∨ k = 5 ∨ k = 6 ∨ k = 7 ∨ k = 8 := by omega
  unfold fstP lenP slotsP
  rcases this with rfl | rfl | rfl | rfl | rfl | rfl | rfl | rfl <;> simp [tabRow] <;> omega

/-- The offset o of a channel belongs to the field k, at rest. -/
def PartIs (R o : Int) (k : Nat) (rest : Int) : Prop := 1 ≤ k ∧ k ≤ 8 ∧ rest = o - fstP k R ∧ 0 ≤ rest ∧ rest < lenP k R

end Go.Proofs.YtgdbaaoifnedbaaDoor
