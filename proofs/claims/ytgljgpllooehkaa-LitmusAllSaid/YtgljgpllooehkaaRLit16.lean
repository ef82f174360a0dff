/-
  Layer 7 (litmus), the reference's search, no program in it: a list of states that grows while it is read.
  Conditions: those that each theorem states.
-/
import Derived.Test.YtgljgpllooehkaaLit16
namespace Go.Proofs.Ytgljgpllooehkaa

/-- A list of reached states, the first i of which have their steps in it. -/
structure Bfs (p : List (List Opn)) (N : Nat) (L : List St) (i : Nat) : Prop where
  nodup : L.Nodup
  reach : ∀ s ∈ L, Reach p N s
  start : st0 ∈ L
  done : ∀ k s, k < i → L[k]? = some s → ∀ t ∈ stepsS p N s, t ∈ L
  le : i ≤ L.length
  size : i + weight p (L.drop i) ≤ most

/-- What a step of s may weigh. -/
def bud (p : List (List Opn)) (N : Nat) (s : St) : Nat := if stepsS p N s = [] then 0 else 7 ^ (phi p s - 1)

/-- The same while state i, s, is at work; u states have been put. -/
structure BfsC (p : List (List Opn)) (N : Nat) (s : St) (i u : Nat) (L : List St) : Prop where
  nodup : L.Nodup
  reach : ∀ s ∈ L, Reach p N s
  start : st0 ∈ L
  done : ∀ k s, k < i → L[k]? = some s → ∀ t ∈ stepsS p N s, t ∈ L
  at_ : L[i]? = some s
  size : i + 1 + weight p (L.drop (i + 1)) + (6 - u) * bud p N s ≤ most

theorem Bfs.init {p : List (List Opn)} {N : Nat} (hR : RightS p (N : Int)) : Bfs p N [st0] 0 where
  nodup := by simp
  reach s hs := by obtain rfl : s = st0 := by simpa using hs
                   exact .start
  start := by simp
  done k s hk := by omega
  le := by omega
  size := by
    have h := phi0 hR
    have : 7 ^ phi p st0 ≤ 7 ^ 12 := Nat.pow_le_pow_right (by omega) h
    simp only [List.drop_zero, weight, List.map_cons, List.map_nil, List.sum_cons, List.sum_nil]
    unfold most
    omega

theorem Bfs.len {p : List (List Opn)} {N : Nat} {L : List St} {i : Nat} (h : Bfs p N L i) : L.length ≤ most := by
  have h1 := weight_len p (L.drop i)
  have h2 := h.size
  have h3 := h.le
  rw [List.length_drop] at h1
  omega

theorem BfsC.len {p : List (List Opn)} {N : Nat} {s : St} {L : List St} {i u : Nat} (h : BfsC p N s i u L) : L.length ≤ most := by
  have h1 := weight_len p (L.drop (i + 1))
  have h2 := h.size
  have h3 := (List.getElem?_eq_some_iff.1 h.at_).1
  rw [List.length_drop] at h1
  omega

theorem drop_cons {L : List St} {i : Nat} {s : St} (h : L[i]? = some s) : L.drop i = s :: L.drop (i + 1) := by
  obtain ⟨hlt, he⟩ := List.getElem?_eq_some_iff.1 h
  rw [← he]
  exact List.drop_eq_getElem_cons hlt

theorem Bfs.open_ {p : List (List Opn)} {N : Nat} {L : List St} {i : Nat} {s : St} (h : Bfs p N L i) (hs : L[i]? = some s) (hR : RightS p (N : Int)) : BfsC p N s i 0 L where
  nodup := h.nodup
  reach := h.reach
  start := h.start
  done := h.done
  at_ := hs
  size := by
    have h1 := h.size
    rw [drop_cons hs] at h1
    have h2 : weight p (s :: L.drop (i + 1)) = 7 ^ phi p s + weight p (L.drop (i + 1)) := by simp [weight]
    rw [h2] at h1
    have h3 : 1 + 6 * bud p N s ≤ 7 ^ phi p s := by
      unfold bud
      by_cases e : stepsS p N s = []
      · rw [if_pos e]
        have := Nat.one_le_pow (phi p s) 7 (by omega)
        omega
      · rw [if_neg e]
        obtain ⟨t, ht⟩ := List.exists_mem_of_ne_nil _ e
        have hst := (h.reach s (List.mem_of_getElem? hs)).ok hR
        have := phi_step hst hR ht
        exact pow_room (by omega) (fun _ => by omega)
    omega

theorem BfsC.put {p : List (List Opn)} {N : Nat} {L : List St} {i u : Nat} {s t : St} (h : BfsC p N s i u L) (hu : u < 6) (hR : RightS p (N : Int)) (ht : t = s ∨ t ∈ stepsS p N s) : BfsC p N s i (u + 1) (if t ∈ L then L else L ++ [t]) := by
  have hless : (6 - (u + 1)) * bud p N s + bud p N s = (6 - u) * bud p N s := by
    have e : 6 - u = (6 - (u + 1)) + 1 := by omega
    rw [e, Nat.succ_mul]
  by_cases hin : t ∈ L
  · rw [if_pos hin]
    exact ⟨h.nodup, h.reach, h.start, h.done, h.at_, by have := h.size; omega⟩
  · rw [if_neg hin]
    have hstep : t ∈ stepsS p N s := by
      rcases ht with rfl | ht
      · exact absurd (List.mem_of_getElem? h.at_) hin
      · exact ht
    have hlt := (List.getElem?_eq_some_iff.1 h.at_).1
    have hrs := h.reach s (List.mem_of_getElem? h.at_)
    refine ⟨?_, ?_, by simp [h.start], ?_, by rw [List.getElem?_append_left hlt]; exact h.at_, ?_⟩
    · rw [List.nodup_append]
      refine ⟨h.nodup, by simp, fun a ha b hb e => ?_⟩
      obtain rfl : b = t := by simpa using hb
      exact hin (e ▸ ha)
    · intro x hx
      rcases List.mem_append.1 hx with hx | hx
      · exact h.reach x hx
      · obtain rfl : x = t := by simpa using hx
        exact hrs.step hstep
    · intro k y hk hy z hz
      rw [List.getElem?_append_left (by omega)] at hy
      exact List.mem_append_left _ (h.done k y hk hy z hz)
    · rw [List.drop_append_of_le_length (by omega), weight_snoc]
      have hphi := phi_step (hrs.ok hR) hR hstep
      have hb : bud p N s = 7 ^ (phi p s - 1) := by
        unfold bud
        rw [if_neg (fun e => by rw [e] at hstep; simp at hstep)]
      have hw : 7 ^ phi p t ≤ 7 ^ (phi p s - 1) := Nat.pow_le_pow_right (by omega) (by omega)
      have := h.size
      rw [hb] at this hless ⊢
      omega

theorem put_sub {L : List St} {t : St} : ∀ x ∈ L, x ∈ (if t ∈ L then L else L ++ [t]) := by
  intro x hx
  split
  · exact hx
  · exact List.mem_append_left _ hx

theorem put_mem {L : List St} {t : St} : t ∈ (if t ∈ L then L else L ++ [t]) := by
  split
  · assumption
  · simp

theorem BfsC.close {p : List (List Opn)} {N : Nat} {L : List St} {i u : Nat} {s : St} (h : BfsC p N s i u L) (hall : ∀ t ∈ stepsS p N s, t ∈ L) : Bfs p N L (i + 1) where
  nodup := h.nodup
  reach := h.reach
  start := h.start
  done k y hk hy z hz := by
    by_cases e : k = i
    · subst e
      rw [h.at_] at hy
      injection hy with hy
      subst hy
      exact hall z hz
    · exact h.done k y (by omega) hy z hz
  le := (List.getElem?_eq_some_iff.1 h.at_).1
  size := by have := h.size; omega

theorem Bfs.all {p : List (List Opn)} {N : Nat} {L : List St} (h : Bfs p N L L.length) : ∀ s, s ∈ L ↔ Reach p N s := by
  intro s
  constructor
  · exact h.reach s
  · intro hr
    induction hr with
    | start => exact h.start
    | step _ hu ih =>
      obtain ⟨k, hk⟩ := List.getElem?_of_mem ih
      exact h.done k _ (List.getElem?_eq_some_iff.1 hk).1 hk _ hu

#print axioms Bfs.all
#print axioms BfsC.put
end Go.Proofs.Ytgljgpllooehkaa
