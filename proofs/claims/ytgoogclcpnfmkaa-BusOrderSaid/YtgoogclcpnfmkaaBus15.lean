/-
  Layer 6's laws: a bus that is newer than a world (OnBus), Do at any core.
  Conditions: those that each theorem states.
-/
import Derived.Test.YtgoogclcpnfmkaaBus10
import Derived.Test.YtgoogclcpnfmkaaBus11
namespace Go.Proofs.Ytgoogclcpnfmkaa
open Go.ChangeShapes Go.WideShapes Go.ChangeAt Go.RowKit

/-- A bus whose blocks are all newer than w, of which nothing has changed. -/
structure OnBus (w wr : World) (L : Lay) (N : Nat) (l : List Int) (qs : List (List (Int × Int))) : Prop where
  bus : BusAt wr L N l qs
  new : ∀ b, L.fp qs.length b → w.heap.size ≤ b
  bel : Below w.heap.size w wr

theorem OnBus.below {w wr w' : World} {L : Lay} {N : Nat} {l : List Int} {qs : List (List (Int × Int))} (m : OnBus w wr L N l qs) (hb : Below wr.heap.size wr w') : OnBus w w' L N l qs :=
  ⟨m.bus.below hb, m.new, below_on m.bel hb⟩

theorem OnBus.step {w wr w2 : World} {L : Lay} {N : Nat} {l l' : List Int} {qs qs' : List (List (Int × Int))} {a : Value} {e : Ending} (m : OnBus w wr L N l qs) (hl : qs'.length = qs.length) (h : BusP L N l' qs' a wr e w2) :
    ∃ f, e = .returned a ∧ OnBus w w2 (L.up f) N l' qs' ∧ Only (L.fp qs.length) wr w2 ∧ ∀ b, (L.up f).fp qs.length b → L.fp qs.length b ∨ wr.heap.size ≤ b := by
  obtain ⟨f, he, hr, hx, ho⟩ := h
  rw [hl] at ho
  exact ⟨f, he, ⟨hr, by rw [hl]; exact hx.base m.bel.size m.new, below_bus m.bel m.bel.size m.new ho⟩, ho, fun b hb => hx.fp hb⟩

/-- A call at core c: the words then, the stores then, what is told, the error. -/
def cIn (qs : List (List (Int × Int))) (c : Int) : Prop := 0 ≤ c ∧ c < qs.length
instance (qs : List (List (Int × Int))) (c : Int) : Decidable (cIn qs c) := inferInstanceAs (Decidable (0 ≤ c ∧ c < qs.length))
def qAt (qs : List (List (Int × Int))) (c : Int) : List (Int × Int) := qs.getD c.toNat []
def dL (N : Nat) (l : List Int) (qs : List (List (Int × Int))) (K c a x : Int) : List Int := if cIn qs c then pL N l (qAt qs c) K a x else l
def dQ (N : Nat) (l : List Int) (qs : List (List (Int × Int))) (K c a x : Int) : List (List (Int × Int)) := if cIn qs c then qs.set c.toNat (pQ N l (qAt qs c) K a x) else qs
def dN (l : List Int) (qs : List (List (Int × Int))) (K c a x : Int) : Int := if cIn qs c then pN l (qAt qs c) K a x else 0
def dE (l : List Int) (qs : List (List (Int × Int))) (K c a x : Int) : Int := if cIn qs c then pE l K a x else 3

theorem dL_len (N : Nat) (l : List Int) (qs : List (List (Int × Int))) (K c a x : Int) : (dL N l qs K c a x).length = l.length := by
  unfold dL; split
  · exact pL_len _ _ _ _ _ _
  · rfl
theorem dQ_len (N : Nat) (l : List Int) (qs : List (List (Int × Int))) (K c a x : Int) : (dQ N l qs K c a x).length = qs.length := by
  unfold dQ; split
  · exact List.length_set
  · rfl

theorem qAt_some {qs : List (List (Int × Int))} {c : Int} (h : cIn qs c) : qs[c.toNat]? = some (qAt qs c) := by
  unfold cIn at h
  have hi : c.toNat < qs.length := by omega
  unfold qAt
  rw [List.getElem?_eq_getElem hi, List.getD_eq_getElem?_getD, List.getElem?_eq_getElem hi]
  rfl

theorem do6_all (L : Lay) (N : Nat) (l : List Int) (qs : List (List (Int × Int))) (K c a x : Int) (w : World) (r : BusAt w L N l qs) :
    Calls Try.prog 15 #[ptr L.g, opV K c a x] w (BusP L N (dL N l qs K c a x) (dQ N l qs K c a x) (.tuple #[.int .i64 (dN l qs K c a x), .int .i64 (dE l qs K c a x)]) w) := by
  unfold dL dQ dN dE
  by_cases h : cIn qs c
  · rw [if_pos h, if_pos h, if_pos h, if_pos h]
    have h1 := do6_ok L N l qs c.toNat (qAt qs c) K a x w r (qAt_some h)
    have e : ((c.toNat : Nat) : Int) = c := by unfold cIn at h; omega
    rw [e] at h1
    exact h1
  · rw [if_neg h, if_neg h, if_neg h, if_neg h]
    exact (do6_no L N l qs K c a x w r (by unfold cIn at h; omega)).mono (fun e w' ⟨he, hb⟩ => ⟨L.hf, he, r.below hb, Ext.refl _ _, Only.of_below hb _⟩)

theorem runE_out {N a : Int} (h : ¬ (0 ≤ a ∧ a < N)) : runE N a 1 = 4 := by
  unfold runE; rw [if_neg (by omega), if_pos (by omega)]

/-- A call that is refused, and a Load, change nothing. -/
theorem d_still (N : Nat) (l : List Int) (qs : List (List (Int × Int))) (K c a x : Int) (h : dE l qs K c a x ≠ 0 ∨ K = 1) : dL N l qs K c a x = l ∧ dQ N l qs K c a x = qs := by
  unfold dL dQ
  by_cases hc : cIn qs c
  · rw [if_pos hc, if_pos hc]
    have key : pL N l (qAt qs c) K a x = l ∧ pQ N l (qAt qs c) K a x = qAt qs c := by
      rcases h with h | h
      · unfold dE at h
        rw [if_pos hc] at h
        unfold pE at h
        unfold pL pQ
        by_cases h0 : K = 0
        · rw [if_pos h0] at h ⊢
          rw [if_pos h0]
          unfold stoL stoQ
          rw [if_neg h, if_neg h]
          exact ⟨rfl, rfl⟩
        rw [if_neg h0] at h ⊢
        rw [if_neg h0]
        by_cases h2 : K = 2
        · rw [if_pos h2] at h; exact absurd rfl h
        rw [if_neg h2] at h ⊢
        rw [if_neg h2]
        by_cases h3 : K = 3
        · rw [if_pos h3] at h; exact absurd rfl h
        rw [if_neg h3] at h ⊢
        rw [if_neg h3]
        by_cases h4 : K = 4
        · rw [if_pos h4] at h ⊢
          rw [if_pos h4]
          unfold swL swQ
          rw [if_neg h, if_neg h]
          exact ⟨rfl, rfl⟩
        rw [if_neg h4] at h ⊢
        rw [if_neg h4]
        by_cases h5 : K = 5
        · rw [if_pos h5] at h; exact absurd rfl h
        rw [if_neg h5]
        exact ⟨rfl, rfl⟩
      · subst h
        exact ⟨rfl, rfl⟩
    rw [key.1, key.2]
    exact ⟨rfl, set_same (qAt_some hc)⟩
  · rw [if_neg hc, if_neg hc]
    exact ⟨rfl, rfl⟩

/-- The method Store at any core; the others where the core is there. -/
theorem store6_all (L : Lay) (N : Nat) (l : List Int) (qs : List (List (Int × Int))) (c a x : Int) (w : World) (r : BusAt w L N l qs) :
    Calls Try.prog 19 #[ptr L.g, .int .i64 c, .int .i64 a, .int .i64 x] w (BusP L N (dL N l qs 0 c a x) (dQ N l qs 0 c a x) (.int .i64 (dE l qs 0 c a x)) w) := by
  unfold dL dQ dE
  by_cases h : cIn qs c
  · rw [if_pos h, if_pos h, if_pos h]
    have h1 := store6_ok L N l qs c.toNat (qAt qs c) a x w r (qAt_some h)
    have e : ((c.toNat : Nat) : Int) = c := by unfold cIn at h; omega
    rw [e] at h1
    exact h1
  · rw [if_neg h, if_neg h, if_neg h]
    exact (store6_no L N l qs c a x w r (by unfold cIn at h; omega)).mono (fun e w' ⟨he, hb⟩ => ⟨L.hf, he, r.below hb, Ext.refl _ _, Only.of_below hb _⟩)

#print axioms do6_all
#print axioms d_still
end Go.Proofs.Ytgoogclcpnfmkaa
