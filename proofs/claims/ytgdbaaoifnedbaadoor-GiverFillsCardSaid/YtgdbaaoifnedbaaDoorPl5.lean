/-
  Layer 13 (plot): Where (program).
  Conditions: those that each theorem states.
-/
import Derived.Test.YtgdbaaoifnedbaaDoorPl4
namespace Go.Proofs.YtgdbaaoifnedbaaDoor
open Go.ChangeShapes Go.WideShapes Go.ChangeAt Go.RowKit

/-- What Where answers. -/
def WhIs (c r b a f t k s i : Int) (ok : Bool) : Prop :=
  (ok = true ∧ okConf c r b ∧ okPair c f t ∧ okWord r k s i ∧ spotP c r f t k s i = a) ∨
  (ok = false ∧ f = 0 ∧ t = 0 ∧ k = 0 ∧ s = 0 ∧ i = 0 ∧ ¬ (okConf c r b ∧ 0 ≤ a ∧ a < c * (c - 1) * (4 + 11 * r)))

theorem WhIs.eq {c r b a f t k s i f' t' k' s' i' : Int} {o o' : Bool} (h : WhIs c r b a f t k s i o) (h' : WhIs c r b a f' t' k' s' i' o') : f = f' ∧ t = t' ∧ k = k' ∧ s = s' ∧ i = i' ∧ o = o' := by
  rcases h with ⟨rfl, h1, h2, h3, h4⟩ | ⟨rfl, rfl, rfl, rfl, rfl, rfl, hn⟩ <;> rcases h' with ⟨rfl, g1, g2, g3, g4⟩ | ⟨rfl, rfl, rfl, rfl, rfl, rfl, gn⟩
  · obtain ⟨rfl, rfl, rfl, rfl, rfl⟩ := spot_inj ⟨h1.1, h1.2.1⟩ h1.2.2.1 h2 h3 g2 g3 (h4.trans g4.symm)
    exact ⟨rfl, rfl, rfl, rfl, rfl, rfl⟩
  · exact absurd ⟨h1, h4 ▸ spot_bd ⟨h1.1, h1.2.1⟩ h1.2.2.1 h2 h3⟩ gn
  · exact absurd ⟨g1, g4 ▸ spot_bd ⟨g1.1, g1.2.1⟩ g1.2.2.1 g2 g3⟩ hn
  · exact ⟨rfl, rfl, rfl, rfl, rfl, rfl⟩

theorem words_iff (c r b a : Int) : (0 ≤ a ∧ a < wordsP c r b) ↔ (okConf c r b ∧ 0 ≤ a ∧ a < c * (c - 1) * (4 + 11 * r)) := by
  unfold wordsP
  split
  · rename_i h
    exact ⟨fun g => ⟨h, g⟩, fun g => g.2⟩
  · rename_i h
    exact ⟨fun g => by omega, fun g => absurd g.1 h⟩

theorem place_ok {R o rest : Int} {k : Nat} (hR : okRing R) (h : PartIs R o k rest) : okWord R k (rest / (tabRow k).2.2.1) (rest % (tabRow k).2.2.1) ∧ offP R k (rest / (tabRow k).2.2.1) (rest % (tabRow k).2.2.1) = o := by
  obtain ⟨h1, h2, h3, h4, h5⟩ := h
  have hb := hR.bd
  have : k = 1 ∨ k = 2 ∨ k = 3 ∨ k = 4 ∨ k = 5 ∨ k = 6 ∨ k = 7 ∨ k = 8 := by omega
  unfold fstP at h3
  unfold lenP slotsP at h5
  unfold okWord offP
  rcases this with rfl | rfl | rfl | rfl | rfl | rfl | rfl | rfl <;> simp [tabRow] at h3 h5 ⊢ <;> omega

theorem place_is {c r b a o rest : Int} {k : Nat} (hC : okConf c r b) (ha : 0 ≤ a ∧ a < c * (c - 1) * (4 + 11 * r)) (ho : o = a % (4 + 11 * r)) (h : PartIs r o k rest) :
    WhIs c r b a (endF c (a / (4 + 11 * r))) (endT c (a / (4 + 11 * r))) k (rest / (tabRow k).2.2.1) (rest % (tabRow k).2.2.1) true := by
  have hc : 2 ≤ c ∧ c ≤ 8 := ⟨hC.1, hC.2.1⟩
  have hn : 0 ≤ a / (4 + 11 * r) ∧ a / (4 + 11 * r) < c * (c - 1) := by
    have hr := hC.2.2.1.bd
    exact ⟨Int.ediv_nonneg ha.1 (by omega), Int.ediv_lt_of_lt_mul (by omega) ha.2⟩
  obtain ⟨e1, e2⟩ := ends_ok hc hn
  obtain ⟨p1, p2⟩ := place_ok hC.2.2.1 h
  refine Or.inl ⟨rfl, hC, e1, p1, ?_⟩
  unfold spotP
  rw [e2, p2, ho]
  have := Int.mul_ediv_add_emod a (4 + 11 * r)
  rw [Int.mul_comm] at this
  exact this

def placeV (f t k s i : Int) : Value := .agg #[.int .i64 f, .int .i64 t, .int .i64 k, .int .i64 s, .int .i64 i]

theorem len_bd {k : Nat} {R : Int} (hk : 1 ≤ k ∧ k ≤ 8) (hR : 2 ≤ R ∧ R ≤ 64) : lenP k R ≤ 512 := by
  have : k = 1 ∨ k = 2 ∨ k = 3 ∨ k = 4 ∨ k = 5 ∨ k = 6 ∨ k = 7 ∨ k = 8 := by omega
  unfold lenP slotsP
  rcases this with rfl | rfl | rfl | rfl | rfl | rfl | rfl | rfl <;> simp [tabRow] <;> omega

end Go.Proofs.YtgdbaaoifnedbaaDoor
