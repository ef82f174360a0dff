/-
  Layer 7 (litmus), no program in it: a greater capacity preserves all outcomes.
  Conditions: those that each theorem states.
-/
import Derived.Test.YtgljgpllooehkaaLit21
namespace Go.Proofs.Ytgljgpllooehkaa

theorem mem_steps {p : List (List Opn)} {N : Nat} {s t : St} {i : Nat} (hi : i < p.length) (h : t ∈ stepsAt p N s i) : t ∈ stepsS p N s :=
  List.mem_flatMap.2 ⟨i, List.mem_range.2 hi, h⟩

theorem step_exec {p : List (List Opn)} {N : Nat} {s : St} {i : Nat} {c : Core} {l : List Opn} {o : Opn} (hc : s.cores[i]? = some c) (hl : p[i]? = some l) (ho : l[c.next]? = some o) : execS N i o s ∈ stepsS p N s := by
  refine mem_steps (List.getElem?_eq_some_iff.1 hl).1 ?_
  rw [stepsAt_core hc hl, ho]
  simp

theorem step_drain {p : List (List Opn)} {N : Nat} {s : St} {i : Nat} {c : Core} {l : List Opn} (hc : s.cores[i]? = some c) (hl : p[i]? = some l) (hb : c.buf ≠ []) : drainS i s ∈ stepsS p N s := by
  refine mem_steps (List.getElem?_eq_some_iff.1 hl).1 ?_
  rw [stepsAt_core hc hl, if_neg hb]
  simp

/-- An operation that is no store does not ask for the capacity. -/
theorem exec_other {N M i : Nat} {o : Opn} {s : St} (h : o.kind ≠ 2) : execS N i o s = execS M i o s := by
  unfold execS
  rw [if_neg (c := o.kind = 2) h, if_neg (c := o.kind = 2) h]

theorem drain_next {s : St} {i : Nat} {c : Core} {q0 : Int × Int} {q : List (Int × Int)} (hc : s.cores[i]? = some c) (hb : c.buf = q0 :: q) : drainS i (nextS i s) = nextS i (drainS i s) := by
  rw [drain_eq (s := nextS i s) (next_core hc) hb, next_eq hc, next_eq (drain_core hc hb), drain_eq hc hb]
  simp only [List.set_set]

theorem Reach.grow {p : List (List Opn)} {N : Nat} {s : St} (hR : RightS p (N : Int)) (h : Reach p N s) : Reach p (N + 1) s := by
  induction h with
  | start => exact .start
  | @step s t hs ht ih =>
    have hok := hs.ok hR
    obtain ⟨i, hi, hm⟩ := List.mem_flatMap.1 ht
    have hi' : i < p.length := List.mem_range.1 hi
    obtain ⟨c, hc⟩ : ∃ c, s.cores[i]? = some c := ⟨_, List.getElem?_eq_getElem (by rw [hok.sh.len]; have := hR.hi; omega)⟩
    obtain ⟨l, hl⟩ : ∃ l, p[i]? = some l := ⟨_, List.getElem?_eq_getElem hi'⟩
    have hr := hok.room i c hc
    have hm0 := hm
    rw [stepsAt_core hc hl] at hm
    rcases List.mem_append.1 hm with hm | hm
    · cases ho : l[c.next]? with
      | none => rw [ho] at hm; simp at hm
      | some o =>
        rw [ho] at hm
        obtain rfl : t = execS N i o s := by simpa using hm
        by_cases hk : o.kind = 2
        · have hb1 : bufOf i (nextS i s) = c.buf := by simp [bufOf, next_core hc]
          have e1 : ∀ M, execS M i o s = storeS M i (o.addr, o.word) (nextS i s) := fun M => by
            unfold execS; rw [if_neg (by omega), if_pos hk]
          have hbig : execS (N + 1) i o s = pushS i (o.addr, o.word) (nextS i s) := by
            rw [e1]; unfold storeS; rw [if_neg (by omega), hb1, if_neg (by omega)]
          by_cases h0 : N = 0
          · subst h0
            have hbuf : c.buf = [] := List.eq_nil_of_length_eq_zero (by omega)
            have r1 := ih.step (step_exec (N := 0 + 1) hc hl ho)
            rw [hbig] at r1
            have c1 : (pushS i (o.addr, o.word) (nextS i s)).cores[i]? = some { next := c.next + 1, regs := c.regs, buf := [(o.addr, o.word)] } := by
              rw [push_eq (next_core hc), set_at' (next_core hc)]
              simp [hbuf]
            have r2 := r1.step (step_drain c1 hl (by simp))
            have e2 : drainS i (pushS i (o.addr, o.word) (nextS i s)) = execS 0 i o s := by
              rw [e1, drain_eq c1 rfl, push_eq (next_core hc), next_eq hc]
              unfold storeS
              rw [if_pos rfl]
              simp only [List.set_set, hbuf]
            rw [e2] at r2
            exact r2
          · by_cases hf : c.buf.length = N
            · cases hb : c.buf with
              | nil => rw [hb] at hf; simp at hf; omega
              | cons q0 q =>
                have r1 := ih.step (step_drain (N := N + 1) hc hl (by rw [hb]; simp))
                have c1 := drain_core hc hb
                have r2 := r1.step (step_exec (N := N + 1) c1 hl ho)
                have hb2 : bufOf i (nextS i (drainS i s)) = q := by simp [bufOf, next_core c1]
                have e2 : execS (N + 1) i o (drainS i s) = execS N i o s := by
                  have e3 : execS (N + 1) i o (drainS i s) = storeS (N + 1) i (o.addr, o.word) (nextS i (drainS i s)) := by unfold execS; rw [if_neg (by omega), if_pos hk]
                  rw [e3, e1]
                  unfold storeS
                  rw [if_neg (by omega), hb2, if_neg (by rw [hb] at hf; simp at hf; omega), if_neg h0, hb1, if_pos hf, drain_next hc hb]
                rw [e2] at r2
                exact r2
            · have e2 : execS N i o s = execS (N + 1) i o s := by
                rw [hbig, e1]; unfold storeS; rw [if_neg h0, hb1, if_neg hf]
              rw [e2]
              exact ih.step (step_exec hc hl ho)
        · rw [exec_other (M := N + 1) hk]
          exact ih.step (step_exec hc hl ho)
    · by_cases hb : c.buf = []
      · rw [if_pos hb] at hm; simp at hm
      · rw [if_neg hb] at hm
        obtain rfl : t = drainS i s := by simpa using hm
        exact ih.step (step_drain hc hl hb)

/-- Whether an execution has ended does not ask for the capacity. -/
theorem ended_any {p : List (List Opn)} {N M : Nat} {s : St} (hok : StOk p N s) (hR : RightS p (N : Int)) (h : stepsS p N s = []) : stepsS p M s = [] := by
  unfold stepsS
  rw [List.flatMap_eq_nil_iff]
  intro i hi
  have hi' : i < p.length := List.mem_range.1 hi
  obtain ⟨c, hc⟩ : ∃ c, s.cores[i]? = some c := ⟨_, List.getElem?_eq_getElem (by rw [hok.sh.len]; have := hR.hi; omega)⟩
  obtain ⟨l, hl⟩ : ∃ l, p[i]? = some l := ⟨_, List.getElem?_eq_getElem hi'⟩
  obtain ⟨h1, h2⟩ := end_core hok h hi' hc
  have hgl : p.getD i [] = l := by rw [List.getD_eq_getElem?_getD, hl]; rfl
  rw [stepsAt_core hc hl, h1, hgl, List.getElem?_eq_none (Nat.le_refl _), if_pos h2]
  rfl

theorem IsOut.grow {p : List (List Opn)} {N : Nat} {x : List Int} (hR : RightS p (N : Int)) (h : IsOut p N x) : IsOut p (N + 1) x := by
  obtain ⟨s, h1, h2, h3⟩ := h
  exact ⟨s, h1.grow hR, ended_any (h1.ok hR) hR h2, h3⟩

#print axioms IsOut.grow
end Go.Proofs.Ytgljgpllooehkaa
