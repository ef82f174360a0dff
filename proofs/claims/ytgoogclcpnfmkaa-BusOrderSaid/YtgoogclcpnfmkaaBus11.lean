/-
  Numbers of layer 6: what stores that wait make of the words when they are drained, and what a core loads.
  Conditions: those that each theorem states.
-/
import Derived.Test.YtgoogclcpnfmkaaBus9
namespace Go.Proofs.Ytgoogclcpnfmkaa

theorem fillL_set {l : List Int} {a x : Int} (h : fillE l.length a 1 x = 0) : fillL l a 1 x = l.set a.toNat x := by
  have h1 := (runE_ok (fillE_ok h).1)
  have hk : a.toNat + 0 < l.length := by omega
  unfold fillL
  rw [if_pos h]
  have := fillK_succ l a.toNat 0 x hk
  rw [fillK_zero] at this
  exact this

theorem fillL_same {l : List Int} {a x : Int} (h : fillE l.length a 1 x ≠ 0) : fillL l a 1 x = l := by
  unfold fillL; rw [if_neg h]

theorem drs_drain (l : List Int) (q : List (Int × Int)) : drs (drs l (q.take 1)) (q.drop 1) = drs l q := by
  rw [← drs_append, List.take_append_drop]

theorem drs_sto (N : Nat) (l : List Int) (q : List (Int × Int)) (a x : Int) : drs (stoL N l q a x) (stoQ N l q a x) = if fillE l.length a 1 x = 0 then (drs l q).set a.toNat x else drs l q := by
  unfold stoL stoQ
  by_cases h : fillE l.length a 1 x = 0
  · rw [if_pos h, if_pos h, if_pos h]
    have key : drs (drs l q) [(a, x)] = (drs l q).set a.toNat x := by
      rw [drs_one]
      exact fillL_set (by rw [drs_len]; exact h)
    by_cases hN : q.length = N
    · rw [if_pos hN, if_pos hN, drs_append, drs_drain, key]
    · rw [if_neg hN, if_neg hN, drs_append, key]
  · rw [if_neg h, if_neg h, if_neg h]

theorem drs_sw (l : List Int) (q : List (Int × Int)) (a x : Int) : drs (swL l q a x) (swQ l q a x) = if fillE l.length a 1 x = 0 then (drs l q).set a.toNat x else drs l q := by
  unfold swL swQ
  by_cases h : fillE l.length a 1 x = 0
  · rw [if_pos h, if_pos h, if_pos h, drs_nil]
    exact fillL_set (by rw [drs_len]; exact h)
  · rw [if_neg h, if_neg h, if_neg h]

theorem stoL_len (N : Nat) (l : List Int) (q : List (Int × Int)) (a x : Int) : (stoL N l q a x).length = l.length := by
  unfold stoL
  split
  · split
    · exact drs_len _ _
    · rfl
  · rfl

theorem swL_len (l : List Int) (q : List (Int × Int)) (a x : Int) : (swL l q a x).length = l.length := by
  unfold swL
  split
  · rw [fillL_len, drs_len]
  · rfl

theorem pL_len (N : Nat) (l : List Int) (q : List (Int × Int)) (K a x : Int) : (pL N l q K a x).length = l.length := by
  unfold pL
  split
  · exact stoL_len _ _ _ _ _
  split
  · exact drs_len _ _
  split
  · exact drs_len _ _
  split
  · exact swL_len _ _ _ _
  rfl

/-- A store that is found last. -/
theorem fnd_from (q : List (Int × Int)) (a : Int) : ∀ o : Option Int, q.foldl (fun r p => if p.1 = a then some p.2 else r) o = (match fnd q a with | some y => some y | none => o) := by
  unfold fnd
  induction q with
  | nil => intro o; rfl
  | cons p t ih =>
    intro o
    simp only [List.foldl_cons]
    rw [ih, ih (if p.1 = a then some p.2 else none)]
    by_cases e : p.1 = a
    · rw [if_pos e, if_pos e]
      cases List.foldl (fun r p => if p.1 = a then some p.2 else r) none t <;> rfl
    · rw [if_neg e, if_neg e]
      cases List.foldl (fun r p => if p.1 = a then some p.2 else r) none t <;> rfl

theorem fnd_cons (p : Int × Int) (t : List (Int × Int)) (a : Int) : fnd (p :: t) a = (match fnd t a with | some y => some y | none => if p.1 = a then some p.2 else none) := by
  show List.foldl _ (if p.1 = a then some p.2 else none) t = _
  exact fnd_from t a _

theorem loadV_in {l : List Int} {a : Int} (h : runE l.length a 1 = 0) : loadV l a = l.getD a.toNat 0 := by unfold loadV; rw [if_pos h]

/-- The stores of a queue can all be made in a memory of n words. -/
def InMem (n : Nat) (q : List (Int × Int)) : Prop := ∀ p ∈ q, okC p.1 p.2 ∧ p.1 < n

theorem ok_fill {l : List Int} {p : Int × Int} (h : okC p.1 p.2 ∧ p.1 < l.length) : fillE l.length p.1 1 p.2 = 0 := by
  obtain ⟨⟨h1, h2, h3, h4⟩, h5⟩ := h
  unfold fillE
  rw [if_pos (runE_one h1 h5), if_pos (by simp [isW]; omega)]

theorem drs_get {q : List (Int × Int)} : ∀ {l : List Int} {a : Int}, InMem l.length q → runE l.length a 1 = 0 → (drs l q).getD a.toNat 0 = ldV l q a := by
  induction q with
  | nil =>
    intro l a _ h
    show l.getD a.toNat 0 = loadV l a
    exact (loadV_in h).symm
  | cons p t ih =>
    intro l a hq h
    have hp := hq p List.mem_cons_self
    have hf := ok_fill hp
    have hl : (fillL l p.1 1 p.2).length = l.length := fillL_len _ _ _ _
    have h1 := ih (l := fillL l p.1 1 p.2) (a := a) (by rw [hl]; exact fun x hx => hq x (List.mem_cons_of_mem _ hx)) (by rw [hl]; exact h)
    have h2 : drs l (p :: t) = drs (fillL l p.1 1 p.2) t := rfl
    rw [h2, h1]
    unfold ldV
    rw [fnd_cons]
    cases fnd t a with
    | some y => rfl
    | none =>
      simp only
      have h0 := (runE_ok h)
      rw [loadV_in (by rw [hl]; exact h), fillL_set hf]
      obtain ⟨⟨q1, _⟩, q5⟩ := hp
      by_cases e : p.1 = a
      · rw [if_pos e, e]
        simp [List.getD_eq_getElem?_getD, List.getElem?_set]
        rw [if_pos (by omega)]
        rfl
      · rw [if_neg e]
        simp only
        rw [loadV_in h]
        simp only [List.getD_eq_getElem?_getD]
        rw [List.getElem?_set_ne (by omega)]

theorem InMem.of_bus {w : World} {L : Lay} {N : Nat} {l : List Int} {qs : List (List (Int × Int))} (r : BusAt w L N l qs) {i : Nat} {q : List (Int × Int)} (hq : qs[i]? = some q) : InMem l.length q :=
  fun p hp => ⟨(r.buf i q hq).fit.2.2.2.2.2 p hp, r.adr i q hq p hp⟩

#print axioms drs_sto
#print axioms drs_get
end Go.Proofs.Ytgoogclcpnfmkaa
