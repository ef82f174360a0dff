/-
  Layer 13 (plot): the places in numbers; contracts of ends and part (program).
  Conditions: those that each theorem states.
-/
import Derived.Test.YtofiogbpejjolaaDoorPl3
namespace Go.Proofs.YtofiogbpejjolaaDoor
open Go.ChangeShapes Go.WideShapes Go.ChangeAt Go.RowKit

def endF (c n : Int) : Int := n / (c - 1)

def endT (c n : Int) : Int := if n / (c - 1) ≤ n % (c - 1) then n % (c - 1) + 1 else n % (c - 1)

theorem ends_ok {c n : Int} (hc : 2 ≤ c ∧ c ≤ 8) (hn : 0 ≤ n ∧ n < c * (c - 1)) : okPair c (endF c n) (endT c n) ∧ rankP c (endF c n) (endT c n) = n := by
  unfold okPair rankP endF endT
  rcases cores_of hc with rfl | rfl | rfl | rfl | rfl | rfl | rfl
  all_goals
    simp only [Int.reduceSub, Int.ediv_one, Int.emod_one] at *
    refine ⟨?_, ?_⟩
    · split <;> refine ⟨?_, ?_, ?_, ?_, ?_⟩ <;> omega
    · split <;> split <;> omega

theorem rank_inj {c f t f' t' : Int} (hc : 2 ≤ c ∧ c ≤ 8) (h : okPair c f t) (h' : okPair c f' t') (e : rankP c f t = rankP c f' t') : f = f' ∧ t = t' := by
  unfold okPair at h h'
  unfold rankP at e
  rcases cores_of hc with rfl | rfl | rfl | rfl | rfl | rfl | rfl
  all_goals
    simp only [Int.reduceSub] at *
    split at e <;> split at e <;> omega

theorem off_bd {R f s i : Int} (hR : okRing R) (h : okWord R f s i) : 0 ≤ offP R f s i ∧ offP R f s i < 4 + 11 * R := by
  unfold okWord at h
  unfold offP
  have := hR.bd
  rcases h with h | h | h
  · split
    · omega
    · omega
  · have : f = 5 ∨ f = 6 ∨ f = 7 := by omega
    rcases this with rfl | rfl | rfl <;> simp <;> omega
  · obtain ⟨rfl, h⟩ := h
    simp
    omega

theorem off_inj {R f s i f' s' i' : Int} (hR : okRing R) (h : okWord R f s i) (h' : okWord R f' s' i') (e : offP R f s i = offP R f' s' i') : f = f' ∧ s = s' ∧ i = i' := by
  have hb := hR.bd
  have key : ∀ f s i, okWord R f s i → (f ≤ 4 ∧ 1 ≤ f ∧ s = 0 ∧ i = 0 ∧ offP R f s i = f - 1) ∨ (f = 5 ∧ 0 ≤ s ∧ s < R ∧ i = 0 ∧ offP R f s i = 4 + s) ∨ (f = 6 ∧ 0 ≤ s ∧ s < R ∧ i = 0 ∧ offP R f s i = 4 + R + s) ∨ (f = 7 ∧ 0 ≤ s ∧ s < R ∧ i = 0 ∧ offP R f s i = 4 + 2 * R + s) ∨ (f = 8 ∧ 0 ≤ s ∧ s < R ∧ 0 ≤ i ∧ i < 8 ∧ offP R f s i = 4 + 3 * R + 8 * s + i) := by
    intro f s i h
    unfold okWord at h
    unfold offP
    rcases h with h | h | h
    · left
      rw [if_pos (by omega)]
      omega
    · have : f = 5 ∨ f = 6 ∨ f = 7 := by omega
      rcases this with rfl | rfl | rfl
      · right; left
        rw [if_neg (by omega), if_pos (by omega)]
        omega
      · right; right; left
        rw [if_neg (by omega), if_pos (by omega)]
        omega
      · right; right; right; left
        rw [if_neg (by omega), if_pos (by omega)]
        omega
    · obtain ⟨rfl, h⟩ := h
      right; right; right; right
      rw [if_neg (by omega), if_neg (by omega)]
      omega
  have k1 := key f s i h
  have k2 := key f' s' i' h'
  generalize offP R f s i = x at *
  generalize offP R f' s' i' = y at *
  subst e
  omega

/-- Where a word lies. -/
def spotP (c r f t k s i : Int) : Int := rankP c f t * (4 + 11 * r) + offP r k s i

theorem spot_inj {c r f t k s i f' t' k' s' i' : Int} (hc : 2 ≤ c ∧ c ≤ 8) (hr : okRing r) (h : okPair c f t) (g : okWord r k s i) (h' : okPair c f' t') (g' : okWord r k' s' i') (e : spotP c r f t k s i = spotP c r f' t' k' s' i') : f = f' ∧ t = t' ∧ k = k' ∧ s = s' ∧ i = i' := by
  have o1 := off_bd hr g
  have o2 := off_bd hr g'
  unfold spotP at e
  have hrk : rankP c f t = rankP c f' t' ∧ offP r k s i = offP r k' s' i' := by
    generalize rankP c f t = a at *
    generalize rankP c f' t' = a' at *
    generalize offP r k s i = o at *
    generalize offP r k' s' i' = o' at *
    unfold okRing at hr
    rcases hr with rfl | rfl | rfl | rfl | rfl | rfl <;> omega
  obtain ⟨rfl, rfl⟩ := rank_inj hc h h' hrk.1
  obtain ⟨rfl, rfl, rfl⟩ := off_inj hr g g' hrk.2
  exact ⟨rfl, rfl, rfl, rfl, rfl⟩

theorem spot_bd {c r f t k s i : Int} (hc : 2 ≤ c ∧ c ≤ 8) (hr : okRing r) (h : okPair c f t) (g : okWord r k s i) : 0 ≤ spotP c r f t k s i ∧ spotP c r f t k s i < c * (c - 1) * (4 + 11 * r) := by
  have o1 := off_bd hr g
  have o2 := rank_bd hc h
  unfold spotP
  generalize rankP c f t = a at *
  generalize offP r k s i = o at *
  generalize c * (c - 1) = n at *
  unfold okRing at hr
  rcases hr with rfl | rfl | rfl | rfl | rfl | rfl <;> omega

set_option maxRecDepth 100000 in
set_option maxHeartbeats 1000000 in
theorem ends13_any (c n : Int) (hc : 2 ≤ c ∧ c ≤ 8) (hn : 0 ≤ n ∧ n < c * (c - 1)) (w : World) :
    Calls Tryd.prog 28 #[.int .i64 c, .int .i64 n] w fun e w' => e = .returned (.tuple #[.int .i64 (endF c n), .int .i64 (endT c n)]) ∧ ∃ k, w' = w.drewN k := by
  have hd : 1 ≤ c - 1 ∧ c - 1 ≤ 7 := by omega
  have hq : n.tdiv (c - 1) = endF c n := Int.tdiv_eq_ediv_of_nonneg hn.1
  have hm : n.tmod (c - 1) = n % (c - 1) := Int.tmod_eq_emod_of_nonneg hn.1
  have hok := (ends_ok hc hn).1
  have hT : endT c n = if endF c n ≤ n % (c - 1) then n % (c - 1) + 1 else n % (c - 1) := rfl
  have hm1 : 0 ≤ n % (c - 1) := Int.emod_nonneg _ (by omega)
  have hm2 : n % (c - 1) < c - 1 := Int.emod_lt_of_pos _ (by omega)
  unfold okPair at hok
  obtain ⟨hf1, hf2, -, -, -⟩ := hok
  obtain ⟨F, eF⟩ : ∃ F, endF c n = F := ⟨_, rfl⟩
  obtain ⟨M, eM⟩ : ∃ M, n % (c - 1) = M := ⟨_, rfl⟩
  have hz : c - 1 ≠ 0 := by omega
  have hz2 : ((c - 1 : Int) == 0) = false := by simpa using hz
  have hw1 : IntKind.i64.wrap (c - 1) = c - 1 := by simp only [IntKind.wrap_i64]; omega
  rw [eF, eM] at hT
  rw [eF] at hq hf1 hf2 ⊢
  rw [eM] at hm hm1 hm2
  obtain ⟨d, ed⟩ : ∃ d, c - 1 = d := ⟨_, rfl⟩
  rw [ed] at hq hm hd hz hz2 hw1 hm2
  obtain ⟨hd1, hd2⟩ := hd
  obtain ⟨hn1, hn2⟩ := hn
  by_cases h : F ≤ M
  · rw [if_pos h] at hT
    have t0 : decide (F ≤ M) = true := by simpa using h
    rw [hT]
    clear hT eF eM hn2
    go_enter Tryd.func28, Tryd.ntmps28
    go_wp2
    go_quiet (fail)
    go_wp2
    go_ret2
    exact ⟨rfl, _, rfl⟩
  · rw [if_neg h] at hT
    have t0 : decide (F ≤ M) = false := by simpa using h
    rw [hT]
    clear hT eF eM hn2
    go_enter Tryd.func28, Tryd.ntmps28
    go_wp2
    go_quiet (fail)
    go_wp2
    go_ret2
    exact ⟨rfl, _, rfl⟩

/-- Where the words of the field k begin, and how many there are. -/
def fstP (k : Nat) (R : Int) : Int := (tabRow k).1 + (tabRow k).2.1 * R

def lenP (k : Nat) (R : Int) : Int := slotsP (tabRow k).2.2.2 R * (tabRow k).2.2.1

theorem fst_bd {k : Nat} {R : Int} (hk : 1 ≤ k ∧ k ≤ 8) (hR : 2 ≤ R ∧ R ≤ 64) : 0 ≤ fstP k R ∧ fstP k R ≤ 200 ∧ 0 ≤ (tabRow k).2.1 * R ∧ (tabRow k).2.1 * R ≤ 200 ∧ (k = 1 → fstP k R = 0) ∧ (k < 8 → fstP (k + 1) R = fstP k R + lenP k R) ∧ (k = 8 → fstP k R + lenP k R = 4 + 11 * R) := by
  have : k = 1 ∨ k = 2 ∨ k = 3 ∨ k = 4 ∨ k = 5 ∨ k = 6 ∨ k = 7 ∨ k = 8 := by omega
  unfold fstP lenP slotsP
  rcases this with rfl | rfl | rfl | rfl | rfl | rfl | rfl | rfl <;> simp [tabRow] <;> omega

/-- The offset o of a channel belongs to the field k, at rest. -/
def PartIs (R o : Int) (k : Nat) (rest : Int) : Prop := 1 ≤ k ∧ k ≤ 8 ∧ rest = o - fstP k R ∧ 0 ≤ rest ∧ rest < lenP k R

set_option maxRecDepth 100000 in
set_option maxHeartbeats 2000000 in
theorem part13_any (R o : Int) (hR : 2 ≤ R ∧ R ≤ 64) (ho : 0 ≤ o ∧ o < 4 + 11 * R) (w : World) (hT : TabAt w) :
    Calls Tryd.prog 29 #[.int .i64 R, .int .i64 o] w fun e w' => (∃ k rest, e = .returned (.tuple #[.int .i64 ((k : Nat) : Int), .int .i64 rest]) ∧ PartIs R o k rest) ∧ Below w.heap.size w w' := by
  have HT := Lib.hid hT
  clear hT
  go_enter Tryd.func29, Tryd.ntmps29
  go_wp2
  go_loopw [4] (fun i wr => ∃ k : Nat, 1 ≤ k ∧ k ≤ 8 ∧ i = .int .i64 k ∧ Hid (k < 8 → o < fstP (k + 1) R) ∧ Hid (TabAt wr ∧ Below w.heap.size w wr)) (fun i _ => (intOf i).toNat)
  case atStart => exact ⟨8, by omega, by omega, rfl, Lib.hid (fun h => absurd h (by omega)), Lib.hid ⟨HT.out, Below.refl _ _⟩⟩
  case round =>
    obtain ⟨k, hk1, hk8, rfl, HU, HA⟩ := hrel
    have hk9 : k < 9 := by omega
    have hk9' : (k : Int) < 9 := by omega
    have hk0 : (0 : Int) ≤ (k : Int) := by omega
    have hF := fst_bd ⟨hk1, hk8⟩ hR
    obtain ⟨c0, c1, c2, c3⟩ := HA.out.1.row k hk9
    obtain ⟨f1, f2, f3, f4, f5, f6, f7⟩ := hF
    have hlt := HA.out.1.lt
    have HS := Lib.hid (fun W => start13_any (tabRow k).1 (tabRow k).2.1 (tabRow k).2.2.1 R ((tabRow k).2.1 * R) (tabRow k).2.2.2 rfl (by have := tabRow_bd ⟨hk1, hk8⟩; omega) (by omega) W)
    have eF : (tabRow k).1 + (tabRow k).2.1 * R = fstP k R := rfl
    rw [eF] at HS
    obtain ⟨a, ea⟩ : ∃ a, (tabRow k).1 = a := ⟨_, rfl⟩
    obtain ⟨b, eb⟩ : ∃ b, (tabRow k).2.1 = b := ⟨_, rfl⟩
    obtain ⟨wd, ewd⟩ : ∃ b, (tabRow k).2.2.1 = b := ⟨_, rfl⟩
    obtain ⟨sl, esl⟩ : ∃ b, (tabRow k).2.2.2 = b := ⟨_, rfl⟩
    have TR := Lib.hid (fun (W : World) (h : TabAt W) => h.row k hk9)
    rw [ea, eb, ewd, esl] at TR
    rw [ea] at c0
    rw [eb] at c1
    rw [ewd] at c2
    rw [esl] at c3
    rw [ea, eb, ewd, esl] at HS
    unfold exV at HS
    obtain ⟨F, hFF⟩ : ∃ F, fstP k R = F := ⟨_, rfl⟩
    have HFF := Lib.hid hFF
    rw [hFF] at f1 f2 f5 HS
    have HF6 := Lib.hid (show (k < 8 → fstP (k + 1) R = F + lenP k R) ∧ (k = 8 → F + lenP k R = 4 + 11 * R) from by rw [← hFF]; exact ⟨f6, f7⟩)
    clear ea eb ewd esl eF f6 f7 hFF f3 f4
    by_cases hlt2 : o < F
    · have t0 : decide (o < F) = true := by simpa using hlt2
      have hk2 : 2 ≤ k := by
        refine Nat.le_of_not_lt fun h => ?_
        have := f5 (by omega)
        omega
      clear f5
      go_wp2_with fail
      refine (HS.out _).mono ?_
      rintro e w2 ⟨rfl, hb2⟩
      have HB := Lib.hid (show TabAt w2 ∧ Below w.heap.size w w2 from ⟨HA.out.1.below hb2, below_on HA.out.2 hb2⟩)
      have HO := Lib.hid (show k - 1 < 8 → o < fstP (k - 1 + 1) R from fun _ => by rw [show k - 1 + 1 = k from by omega, HFF.out]; exact hlt2)
      clear hb2 c0 c1 c2 c3
      go_wp2
      go_roundw
      case rel => exact ⟨k - 1, by omega, by omega, by go_num, HO, HB⟩
      case measure => simp [intOf]; omega
    · have t0 : decide (o < F) = false := by simpa using hlt2
      have HP := Lib.hid (show PartIs R o k (o - F) from ⟨hk1, hk8, by rw [HFF.out], by omega, by
        have h6 := HF6.out
        have hu := HU.out
        by_cases h8 : k < 8
        · have := h6.1 h8
          have := hu h8
          omega
        · have := h6.2 (by omega)
          omega⟩)
      clear f5
      go_wp2_with fail
      refine (HS.out _).mono ?_
      rintro e w2 ⟨rfl, hb2⟩
      have HB := Lib.hid (below_on HA.out.2 hb2)
      clear c0 c1 c2 c3
      obtain ⟨c0, c1, c2, c3⟩ := TR.out w2 (HA.out.1.below hb2)
      have hlt3 := (HA.out.1.below hb2).lt
      clear hb2
      go_wp2_with fail
      refine (HS.out _).mono ?_
      rintro e w3 ⟨rfl, hb3⟩
      have HB3 := Lib.hid (below_on HB.out hb3)
      clear c0 c1 c2 c3 hb3 hlt3
      go_wp2
      go_ret2
      exact ⟨⟨k, o - F, rfl, HP.out⟩, HB3.out⟩

#print axioms ends13_any
#print axioms part13_any
end Go.Proofs.YtofiogbpejjolaaDoor
