/-
  Layer 15 (grant): what the law GrantOnce keeps between its steps: in numbers (Inv15), and in memory (Once15).
  Conditions: those that each theorem states.
-/
import Derived.Test.YtikndnagflpckaaGr4
import Derived.Test.YtikndnagflpckaaTwo
namespace Go.Proofs.Ytikndnagflpckaa
open Go.ChangeShapes Go.WideShapes Go.ChangeAt Go.RowKit

theorem onN15_cnt (l : List (Int × Bool)) : ∀ k, (onN15 l k).length = (l.take k).countP (·.2)
  | 0 => by simp [onN15]
  | k + 1 => by
    rw [onN15, List.length_append, onN15_cnt l k, List.take_add_one, List.countP_append]
    cases hx : l[k]? with
    | none => simp
    | some x => cases hb : x.2 <;> simp [hb]
theorem onL15_cnt (l : List (Int × Bool)) : (onL15 l l.length).length = l.countP (·.2) := by
  rw [onL15, List.length_map, onN15_cnt, List.take_length]
theorem cnt_set15 : ∀ {l : List (Int × Bool)} {i : Nat} {e : Int} {b : Bool} (e' : Int) (b' : Bool), l[i]? = some (e, b) → (l.set i (e', b')).countP (·.2) + (if b then 1 else 0) = l.countP (·.2) + (if b' then 1 else 0)
  | [], i, e, b, e', b', h => by simp at h
  | x :: l, 0, e, b, e', b', h => by
    simp only [List.getElem?_cons_zero, Option.some.injEq] at h
    subst h
    simp only [List.set_cons_zero, List.countP_cons]
    omega
  | x :: l, i + 1, e, b, e', b', h => by
    have ih := cnt_set15 (l := l) (i := i) e' b' (by simpa using h)
    simp only [List.set_cons_succ, List.countP_cons]
    omega
theorem cnt_clear15 : ∀ l : List (Int × Bool), (clearL15 l).countP (·.2) = 0
  | [] => rfl
  | x :: l => by
    have := cnt_clear15 l
    simp only [clearL15, List.map_cons, List.countP_cons] at this ⊢
    simp [this]
theorem cnt_new15 : ∀ C : Nat, (new15 C).countP (·.2) = 0
  | 0 => rfl
  | C + 1 => by
    have := cnt_new15 C
    simp only [new15, List.replicate_succ, List.countP_cons] at this ⊢
    simp [this]

/-- What holds behind k steps: the handles that are good are those of the held slots; one that is gone is of a generation that its slot has left. -/
structure Inv15 (l : List (Int × Bool)) (gone good : List Int) (k : Nat) : Prop where
  gen : ∀ (i : Nat) (e : Int) (b : Bool), l[i]? = some (e, b) → 0 ≤ e ∧ e ≤ k
  held : ∀ h ∈ good, ∃ (i : Nat) (e : Int), l[i]? = some (e, true) ∧ h = e * 64 + i
  nod : good.Nodup
  len : good.length = (onL15 l l.length).length
  old : ∀ h ∈ gone, ∃ (i : Nat) (g e : Int) (b : Bool), l[i]? = some (e, b) ∧ h = g * 64 + i ∧ 0 ≤ g ∧ g ≤ e ∧ (b = true → g < e)
  sum : gone.length + good.length ≤ k

theorem Inv15.start (C : Nat) : Inv15 (new15 C) [] [] 0 := by
  refine ⟨fun i e b h => ?_, fun _ h => (by cases h), List.nodup_nil, ?_, fun _ h => (by cases h), Nat.le_refl _⟩
  · unfold new15 at h
    rw [List.getElem?_replicate] at h
    split at h
    · injection h with h
      injection h with h1 h2
      omega
    · cases h
  · rw [onL15_cnt, cnt_new15]; rfl

theorem Inv15.more {l : List (Int × Bool)} {gone good : List Int} {k : Nat} (s : Inv15 l gone good k) : Inv15 l gone good (k + 1) :=
  ⟨fun i e b h => by have := s.gen i e b h; omega, s.held, s.nod, s.len, s.old, by have := s.sum; omega⟩

theorem free15_no {l : List (Int × Bool)} {x : Int} (h : giveB15 l x = false) : giveL15 l x = l := by
  unfold giveB15 at h
  unfold giveL15
  rcases at15_cases l x with ⟨h1, _⟩ | ⟨i, e, b, rfl, _, h1⟩
  · rw [h1]
  · rw [at15_nat, h1] at h ⊢
    cases b with
    | true => rfl
    | false => cases h
theorem free15_yes {l : List (Int × Bool)} {x : Int} (h : giveB15 l x = true) : ∃ (i : Nat) (e : Int), x = i ∧ l[i]? = some (e, false) := by
  unfold giveB15 at h
  rcases at15_cases l x with ⟨h1, _⟩ | ⟨i, e, b, rfl, _, h1⟩
  · rw [h1] at h; cases h
  · rw [at15_nat, h1] at h
    cases b with
    | true => cases h
    | false => exact ⟨i, e, rfl, h1⟩

/-- Give of a free slot. -/
theorem Inv15.give {l : List (Int × Bool)} {gone good : List Int} {k i : Nat} {e : Int} (s : Inv15 l gone good k) (h : l[i]? = some (e, false)) (h64 : l.length ≤ 64) (hk : k ≤ 150) :
    ∃ H, giveV15 l i = H ∧ Inv15 (giveL15 l i) gone (good ++ [H]) (k + 1) ∧ H ∉ gone ++ good ∧ slotV15 (giveL15 l i) H = i ∧ slotB15 (giveL15 l i) H = true := by
  have hi := lt_of_at h
  obtain ⟨e0, e1⟩ := s.gen i e false h
  have ew : addW e 1 = e + 1 := by unfold addW; omega
  have hl : giveL15 l i = l.set i (e + 1, true) := by unfold giveL15; rw [at15_nat, h, ← ew]; rfl
  have hv : giveV15 l i = (e + 1) * 64 + i := by unfold giveV15; rw [at15_nat, h, ← ew]
  have hat : (l.set i (e + 1, true))[i]? = some (e + 1, true) := by simp [hi]
  have hne : ∀ j, j ≠ i → (l.set i (e + 1, true))[j]? = l[j]? := fun j hj => by rw [List.getElem?_set, if_neg (Ne.symm hj)]
  have hso : slotO15 (l.set i (e + 1, true)) ((e + 1) * 64 + i) = some i := slotO15_yes hat (by omega) (by omega)
  have hgn : (e + 1) * 64 + (i : Int) ∉ gone := fun hm => by
    obtain ⟨j, g, e', b, h1, h2, h3, h4, h5⟩ := s.old _ hm
    have hj := lt_of_at h1
    obtain rfl : j = i := by omega
    rw [h] at h1
    injection h1 with h1
    injection h1 with h1 _
    omega
  have hgd : (e + 1) * 64 + (i : Int) ∉ good := fun hm => by
    obtain ⟨j, e', h1, h2⟩ := s.held _ hm
    have hj := lt_of_at h1
    obtain rfl : j = i := by omega
    rw [h] at h1
    injection h1 with h1
    injection h1 with _ h1
    cases h1
  refine ⟨_, hv, ?_, by rw [List.mem_append]; exact fun hm => hm.elim hgn hgd, by rw [hl]; unfold slotV15; rw [hso], by rw [hl]; unfold slotB15; rw [hso]; rfl⟩
  rw [hl]
  refine ⟨fun j e' b' hj => ?_, fun h' hm => ?_, ?_, ?_, fun h' hm => ?_, by have := s.sum; rw [List.length_append]; simp; omega⟩
  · by_cases e3 : j = i
    · subst e3
      rw [hat] at hj
      injection hj with hj
      injection hj with hj _
      omega
    · rw [hne j e3] at hj
      have := s.gen j e' b' hj
      omega
  · rw [List.mem_append, List.mem_singleton] at hm
    rcases hm with hm | rfl
    · obtain ⟨j, e', h1, h2⟩ := s.held _ hm
      refine ⟨j, e', ?_, h2⟩
      rw [hne j (fun e3 => ?_)]
      · exact h1
      · subst e3
        rw [h] at h1
        injection h1 with h1
        injection h1 with _ h1
        cases h1
    · exact ⟨i, e + 1, hat, rfl⟩
  · rw [List.nodup_append]
    refine ⟨s.nod, by simp, fun a ha b hb => ?_⟩
    rw [List.mem_singleton] at hb
    subst hb
    rintro rfl
    exact hgd ha
  · have h1 := s.len
    have h2 := cnt_set15 (e + 1) true h
    rw [onL15_cnt] at h1 ⊢
    rw [List.length_append]
    simp at h2 ⊢
    omega
  · obtain ⟨j, g, e', b, h1, h2, h3, h4, h5⟩ := s.old _ hm
    by_cases e3 : j = i
    · subst e3
      rw [h] at h1
      injection h1 with h1
      injection h1 with h1 _
      exact ⟨j, g, e + 1, true, hat, h2, h3, by omega, fun _ => by omega⟩
    · exact ⟨j, g, e', b, by rw [hne j e3]; exact h1, h2, h3, h4, h5⟩

/-- Clear. -/
theorem Inv15.clear {l : List (Int × Bool)} {gone good : List Int} {k : Nat} (s : Inv15 l gone good k) : Inv15 (clearL15 l) (gone ++ good) [] (k + 1) := by
  have hat : ∀ (i : Nat) (e : Int) (b : Bool), l[i]? = some (e, b) → (clearL15 l)[i]? = some (e, false) := fun i e b h => by simp [clearL15, h]
  refine ⟨fun i e b h => ?_, fun _ h => (by cases h), List.nodup_nil, ?_, fun h hm => ?_, by have := s.sum; rw [List.length_append]; simp; omega⟩
  · unfold clearL15 at h
    rw [List.getElem?_map] at h
    cases hx : l[i]? with
    | none => rw [hx] at h; cases h
    | some x =>
      rw [hx] at h
      simp only [Option.map_some, Option.some.injEq, Prod.mk.injEq] at h
      have := s.gen i x.1 x.2 hx
      omega
  · rw [onL15_cnt, cnt_clear15]; rfl
  · rw [List.mem_append] at hm
    rcases hm with hm | hm
    · obtain ⟨j, g, e', b, h1, h2, h3, h4, h5⟩ := s.old _ hm
      exact ⟨j, g, e', false, hat _ _ _ h1, h2, h3, h4, fun h => by cases h⟩
    · obtain ⟨j, e', h1, h2⟩ := s.held _ hm
      exact ⟨j, e', e', false, hat _ _ _ h1, h2, (s.gen _ _ _ h1).1, Int.le_refl _, fun h => by cases h⟩

/-- Drop of a good handle. -/
theorem Inv15.drop {l : List (Int × Bool)} {gone good : List Int} {k j : Nat} {h : Int} (s : Inv15 l gone good k) (hj : good[j]? = some h) (h64 : l.length ≤ 64) :
    Inv15 (dropL15 l h) (gone ++ [h]) (good.take j ++ good.drop (j + 1)) (k + 1) ∧ dropE15 l h = 0 := by
  have hjl := lt_of_at hj
  obtain ⟨i, e, h1, rfl⟩ := s.held _ (List.mem_of_getElem? hj)
  have hi := lt_of_at h1
  obtain ⟨e0, e1⟩ := s.gen _ _ _ h1
  have hso : slotO15 l (e * 64 + i) = some i := slotO15_yes h1 (by omega) e0
  have hdl : dropL15 l (e * 64 + i) = l.set i (e, false) := by unfold dropL15; rw [hso]; simp only [offL15, h1]
  have hde : dropE15 l (e * 64 + i) = 0 := by unfold dropE15; rw [hso]
  have hat : (l.set i (e, false))[i]? = some (e, false) := by simp [hi]
  have hne : ∀ j, j ≠ i → (l.set i (e, false))[j]? = l[j]? := fun j hj => by rw [List.getElem?_set, if_neg (Ne.symm hj)]
  have hgood : good = good.take j ++ (e * 64 + (i : Int)) :: good.drop (j + 1) := by
    have h2 := List.drop_eq_getElem_cons hjl
    have h3 : good[j] = e * 64 + (i : Int) := by
      rw [List.getElem?_eq_getElem hjl] at hj
      injection hj
    rw [h3] at h2
    rw [← h2, List.take_append_drop]
  have hp : good.Perm ((e * 64 + (i : Int)) :: (good.take j ++ good.drop (j + 1))) := by
    have h4 := List.perm_middle (a := e * 64 + (i : Int)) (l₁ := good.take j) (l₂ := good.drop (j + 1))
    rwa [← hgood] at h4
  have hn := (hp.nodup_iff).1 s.nod
  rw [List.nodup_cons] at hn
  have hlen : (good.take j ++ good.drop (j + 1)).length + 1 = good.length := by rw [hp.length_eq]; simp
  refine ⟨?_, hde⟩
  rw [hdl]
  refine ⟨fun j e' b' hj => ?_, fun h' hm => ?_, hn.2, ?_, fun h' hm => ?_, by have := s.sum; rw [List.length_append, List.length_singleton]; omega⟩
  · by_cases e3 : j = i
    · subst e3
      rw [hat] at hj
      injection hj with hj
      injection hj with hj _
      omega
    · rw [hne j e3] at hj
      have := s.gen j e' b' hj
      omega
  · obtain ⟨j', e', h3, h4⟩ := s.held h' (hp.mem_iff.2 (List.mem_cons_of_mem _ hm))
    refine ⟨j', e', ?_, h4⟩
    rw [hne j' (fun e3 => ?_)]
    · exact h3
    · subst e3
      rw [h1] at h3
      injection h3 with h3
      injection h3 with h3 _
      subst h3
      rw [h4] at hm
      exact hn.1 hm
  · have h2 := s.len
    have h3 := cnt_set15 e false h1
    rw [onL15_cnt] at h2 ⊢
    simp at h3
    omega
  · rw [List.mem_append, List.mem_singleton] at hm
    rcases hm with hm | rfl
    · obtain ⟨j', g, e', b, h3, h4, h5, h6, h7⟩ := s.old _ hm
      by_cases e3 : j' = i
      · subst e3
        rw [h1] at h3
        injection h3 with h3
        injection h3 with h3 _
        exact ⟨j', g, e, false, hat, h4, h5, by omega, fun h => by cases h⟩
      · exact ⟨j', g, e', b, by rw [hne j' e3]; exact h3, h4, h5, h6, h7⟩
    · exact ⟨i, e, e, false, hat, rfl, e0, Int.le_refl _, fun h => by cases h⟩

/-- A handle that is gone. -/
theorem Inv15.stale {l : List (Int × Bool)} {gone good : List Int} {k : Nat} {h : Int} (s : Inv15 l gone good k) (hm : h ∈ gone) (h64 : l.length ≤ 64) : slotV15 l h = 0 ∧ slotB15 l h = false ∧ dropL15 l h = l ∧ dropE15 l h = 7 := by
  have hn : slotO15 l h = none := by
    cases hs : slotO15 l h with
    | none => rfl
    | some j =>
      obtain ⟨e, h1, h2⟩ := slotO15_is hs
      obtain ⟨i, g, e', b, h3, h4, h5, h6, h7⟩ := s.old _ hm
      have hi := lt_of_at h3
      have hj := lt_of_at h1
      have := s.gen _ _ _ h1
      obtain rfl : j = i := by omega
      rw [h1] at h3
      injection h3 with h3
      injection h3 with h3 h8
      have := h7 h8.symm
      omega
  refine ⟨?_, ?_, ?_, ?_⟩
  · unfold slotV15; rw [hn]
  · unfold slotB15; rw [hn]; rfl
  · unfold dropL15; rw [hn]
  · unfold dropE15; rw [hn]

#print axioms Inv15.give
#print axioms Inv15.clear
#print axioms Inv15.drop
#print axioms Inv15.stale
end Go.Proofs.Ytikndnagflpckaa
