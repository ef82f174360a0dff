/-
  Layer 7 (litmus), no program in it: what holds of every state that can be reached; the search through all states.
  Conditions: those that each theorem states.
-/
import Derived.Test.YtgljgpllooehkaaLit8
namespace Go.Proofs.Ytgljgpllooehkaa

/-- What an operation does to the cores. -/
theorem exec_core {s : St} {i N : Nat} {c : Core} {o : Opn} (hc : s.cores[i]? = some c) (hr : c.buf.length ≤ N) :
    ∃ d, (execS N i o s).cores = s.cores.set i d ∧ d.next = c.next + 1 ∧ d.buf.length ≤ c.buf.length + 1 ∧ d.buf.length ≤ N := by
  have c1 := next_core hc
  have hN : (nextS i s).cores = s.cores.set i { c with next := c.next + 1 } := by rw [next_eq hc]
  unfold execS
  split
  · rw [reg_eq c1]
    exact ⟨{ next := c.next + 1, regs := c.regs.set o.reg.toNat (sees (bufOf i s) s.mem o.addr), buf := c.buf }, by simp only [hN, List.set_set], rfl, by simp, hr⟩
  · split
    · unfold storeS
      split
      · exact ⟨_, hN, rfl, by simp, hr⟩
      · rename_i h0
        have hb : bufOf i (nextS i s) = c.buf := by simp [bufOf, c1]
        rw [hb]
        split
        · rename_i hf
          cases e : c.buf with
          | nil => rw [e] at hf; simp at hf; omega
          | cons p q =>
            have hd := drain_eq (s := nextS i s) c1 (p := p) (q := q) e
            rw [push_eq (drain_core c1 e)]
            refine ⟨{ next := c.next + 1, regs := c.regs, buf := q ++ [(o.addr, o.word)] }, by simp only [hd, hN, List.set_set], rfl, by simp, ?_⟩
            rw [e] at hf
            simp at hf ⊢
            omega
        · rename_i hf
          rw [push_eq c1]
          exact ⟨{ next := c.next + 1, regs := c.regs, buf := c.buf ++ [(o.addr, o.word)] }, by simp only [hN, List.set_set], rfl, by simp, by simp; omega⟩
    · split
      · rw [flush_eq c1]
        exact ⟨{ next := c.next + 1, regs := c.regs, buf := [] }, by simp only [hN, List.set_set], rfl, by simp, by simp⟩
      · split
        · have c2 := flush_core c1
          dsimp only
          rw [reg_eq c2, flush_eq c1]
          exact ⟨{ next := c.next + 1, regs := c.regs.set o.reg.toNat ((List.foldl wrt (nextS i s).mem c.buf).getD o.addr.toNat 0), buf := [] }, by simp only [hN, List.set_set], rfl, by simp, by simp⟩
        · exact ⟨_, hN, rfl, by simp, hr⟩

theorem StOk.step_core {p : List (List Opn)} {N : Nat} {s t : St} (h : StOk p N s) (ht : Shape t) {i : Nat} {c d : Core} (hi : i < p.length) (_hc : s.cores[i]? = some c) (he : t.cores = s.cores.set i d) (hn : d.next ≤ (p.getD i []).length) (hb : d.buf.length ≤ N) : StOk p N t where
  sh := ht
  next j x hx := by
    rw [he, List.getElem?_set] at hx
    split at hx
    · rename_i hij
      split at hx
      · injection hx with e; subst e; subst hij; exact hn
      · cases hx
    · exact h.next j x hx
  room j x hx := by
    rw [he, List.getElem?_set] at hx
    split at hx
    · split at hx
      · injection hx with e; subst e; exact hb
      · cases hx
    · exact h.room j x hx
  rest j hj h3 := by
    rw [he, List.getElem?_set_ne (by omega)]
    exact h.rest j hj h3

/-- A step of core i. -/
theorem step_inv {p : List (List Opn)} {N : Nat} {s t : St} (h : StOk p N s) (hR : RightS p (N : Int)) (ht : t ∈ stepsS p N s) :
    ∃ i c d, i < p.length ∧ s.cores[i]? = some c ∧ Shape t ∧ t.cores = s.cores.set i d ∧ d.buf.length ≤ N ∧
      ((d.next = c.next + 1 ∧ c.next < (p.getD i []).length ∧ d.buf.length ≤ c.buf.length + 1) ∨ (d.next = c.next ∧ d.buf.length + 1 = c.buf.length)) := by
  have hN : N ≤ 4 := by have := hR.b4; omega
  obtain ⟨i, hi, hm⟩ := List.mem_flatMap.1 ht
  have hi' : i < p.length := List.mem_range.1 hi
  have hi3 : i < 3 := by have := hR.hi; omega
  obtain ⟨c, hc⟩ : ∃ c, s.cores[i]? = some c := ⟨_, List.getElem?_eq_getElem (by rw [h.sh.len]; exact hi3)⟩
  obtain ⟨l, hl⟩ : ∃ l, p[i]? = some l := ⟨_, List.getElem?_eq_getElem hi'⟩
  have hgl : p.getD i [] = l := by rw [List.getD_eq_getElem?_getD, hl]; rfl
  have hr := h.room i c hc
  rw [stepsAt_core hc hl] at hm
  rcases List.mem_append.1 hm with hm | hm
  · cases ho : l[c.next]? with
    | none => rw [ho] at hm; simp at hm
    | some o =>
      rw [ho] at hm
      obtain rfl : t = execS N i o s := by simpa using hm
      have hlt := (List.getElem?_eq_some_iff.1 ho).1
      have hl4 := (hR.each l (List.mem_of_getElem? hl))
      have hoo := hl4.2 o (List.mem_of_getElem? ho)
      obtain ⟨d, h1, h2, h3, h4⟩ := exec_core (o := o) hc hr
      exact ⟨i, c, d, hi', hc, h.sh.exec hc hN hr (by have := hl4.1; omega) hoo, h1, h4, .inl ⟨h2, by rw [hgl]; exact hlt, h3⟩⟩
  · by_cases hb : c.buf = []
    · rw [if_pos hb] at hm; simp at hm
    · rw [if_neg hb] at hm
      obtain rfl : t = drainS i s := by simpa using hm
      cases e : c.buf with
      | nil => exact absurd e hb
      | cons q0 q =>
        have hd := drain_eq hc e
        refine ⟨i, c, { c with buf := q }, hi', hc, h.sh.drain i, by rw [hd], ?_, .inr ⟨rfl, by rw [e]; simp⟩⟩
        rw [e] at hr
        simp at hr ⊢
        omega

theorem StOk.step {p : List (List Opn)} {N : Nat} {s t : St} (h : StOk p N s) (hR : RightS p (N : Int)) (ht : t ∈ stepsS p N s) : StOk p N t := by
  obtain ⟨i, c, d, hi, hc, hs, he, hb, hn⟩ := step_inv h hR ht
  refine h.step_core hs hi hc he ?_ hb
  have := h.next i c hc
  rcases hn with hn | hn <;> omega

theorem shape0 : Shape st0 where
  len := rfl
  mem := rfl
  memd x hx := by simp [st0] at hx; subst hx; exact ⟨by omega, by omega⟩
  core i c hc := by
    have : c = core0 := by
      simp only [st0] at hc
      match i, hc with
      | 0, hc => simpa using hc.symm
      | 1, hc => simpa using hc.symm
      | 2, hc => simpa using hc.symm
      | n + 3, hc => simp at hc
    subst this
    exact ⟨by simp [core0], rfl, fun x hx => by simp [core0] at hx; subst hx; exact ⟨by omega, by omega⟩, by simp [core0], fun q hq => by simp [core0] at hq⟩

theorem core_st0 {i : Nat} {c : Core} (hc : st0.cores[i]? = some c) : c = core0 := by
  simp only [st0] at hc
  match i, hc with
  | 0, hc => simpa using hc.symm
  | 1, hc => simpa using hc.symm
  | 2, hc => simpa using hc.symm
  | n + 3, hc => simp at hc

theorem ok0 (p : List (List Opn)) (N : Nat) : StOk p N st0 where
  sh := shape0
  next i c hc := by rw [core_st0 hc]; simp [core0]
  room i c hc := by rw [core_st0 hc]; simp [core0]
  rest i _ h3 := by
    match i, h3 with
    | 0, _ => rfl
    | 1, _ => rfl
    | 2, _ => rfl

theorem Reach.ok {p : List (List Opn)} {N : Nat} {s : St} (h : Reach p N s) (hR : RightS p (N : Int)) : StOk p N s := by
  induction h with
  | start => exact ok0 p N
  | step _ ht ih => exact ih.step hR ht

/-- How much is left to do. -/
def phi (p : List (List Opn)) (s : St) : Nat := 2 * ((p.getD 0 []).length - nextOf 0 s) + (bufOf 0 s).length + (2 * ((p.getD 1 []).length - nextOf 1 s) + (bufOf 1 s).length) + (2 * ((p.getD 2 []).length - nextOf 2 s) + (bufOf 2 s).length)

theorem phi_step {p : List (List Opn)} {N : Nat} {s t : St} (h : StOk p N s) (hR : RightS p (N : Int)) (ht : t ∈ stepsS p N s) : phi p t < phi p s := by
  obtain ⟨i, c, d, hi, hc, hs, he, hb, hn⟩ := step_inv h hR ht
  obtain ⟨a0, a1, a2, e⟩ := three h.sh.len
  have hi3 := core_lt h.sh hc
  have n0 := h.next i c hc
  unfold phi nextOf bufOf
  rw [he, e]
  rw [e] at hc
  match i, hi3 with
  | 0, _ =>
    obtain rfl : a0 = c := by simpa using hc
    simp only [List.set_cons_zero, List.getElem?_cons_zero, List.getElem?_cons_succ, Option.map_some, Option.getD_some]
    rcases hn with hn | hn <;> omega
  | 1, _ =>
    obtain rfl : a1 = c := by simpa using hc
    simp only [List.set_cons_zero, List.set_cons_succ, List.getElem?_cons_zero, List.getElem?_cons_succ, Option.map_some, Option.getD_some]
    rcases hn with hn | hn <;> omega
  | 2, _ =>
    obtain rfl : a2 = c := by simpa using hc
    simp only [List.set_cons_zero, List.set_cons_succ, List.getElem?_cons_zero, List.getElem?_cons_succ, Option.map_some, Option.getD_some]
    rcases hn with hn | hn <;> omega

theorem phi0 {p : List (List Opn)} {N : Nat} (hR : RightS p (N : Int)) : phi p st0 ≤ 12 := by
  have h3 := hR.hi
  have hs := hR.all
  have e : ∀ i, i < 3 → nextOf i st0 = 0 ∧ bufOf i st0 = [] := by
    intro i hi
    match i, hi with
    | 0, _ => exact ⟨rfl, rfl⟩
    | 1, _ => exact ⟨rfl, rfl⟩
    | 2, _ => exact ⟨rfl, rfl⟩
  unfold phi
  rw [(e 0 (by omega)).1, (e 0 (by omega)).2, (e 1 (by omega)).1, (e 1 (by omega)).2, (e 2 (by omega)).1, (e 2 (by omega)).2]
  match p, h3 with
  | [], _ => simp
  | [a], _ => simp at hs ⊢; omega
  | [a, b], _ => simp at hs ⊢; omega
  | [a, b, c], _ => simp at hs ⊢; omega

theorem steps_len {p : List (List Opn)} {N : Nat} (hR : RightS p (N : Int)) (s : St) : (stepsS p N s).length ≤ 6 := by
  have h2 : ∀ i, (stepsAt p N s i).length ≤ 2 := by
    intro i
    unfold stepsAt
    rw [List.length_append]
    show _ ≤ 1 + 1
    exact Nat.add_le_add (by split <;> simp) (by split <;> simp)
  have : ∀ k, ((List.range k).flatMap (stepsAt p N s)).length ≤ 2 * k := by
    intro k
    induction k with
    | zero => simp
    | succ k ih =>
      rw [range_more, List.length_append]
      have := h2 k
      omega
  have := this p.length
  have := hR.hi
  unfold stepsS
  omega

def weight (p : List (List Opn)) (W : List St) : Nat := (W.map fun s => 7 ^ phi p s).sum

theorem weight_len (p : List (List Opn)) : ∀ W : List St, W.length ≤ weight p W
  | [] => Nat.le_refl _
  | s :: W => by
    have ih := weight_len p W
    have : 0 < 7 ^ phi p s := Nat.pow_pos (by omega)
    simp only [weight, List.map_cons, List.sum_cons, List.length_cons] at ih ⊢
    omega

theorem weight_snoc (p : List (List Opn)) (W : List St) (s : St) : weight p (W ++ [s]) = weight p W + 7 ^ phi p s := by
  simp [weight]

/-- The most states that a search takes from its list. -/
def most : Nat := 7 ^ 12

/-- The search, between two states: what it has seen, what waits, what has ended, how many it has taken. -/
structure Srch (p : List (List Opn)) (N : Nat) (seen W E : List St) (n : Nat) : Prop where
  start : st0 ∈ seen
  reach : ∀ s ∈ seen, Reach p N s
  nodup : seen.Nodup
  wsub : ∀ s ∈ W, s ∈ seen
  wnodup : W.Nodup
  enodup : E.Nodup
  eiff : ∀ s, s ∈ E ↔ s ∈ seen ∧ s ∉ W ∧ stepsS p N s = []
  closed : ∀ s ∈ seen, s ∉ W → ∀ t ∈ stepsS p N s, t ∈ seen
  bound : n + weight p W ≤ most
  size : seen.length = n + W.length
  esize : E.length ≤ n

/-- The search while the steps of s are looked through: k of them have been. -/
structure Look (p : List (List Opn)) (N : Nat) (s : St) (k : Nat) (seen W E : List St) (n : Nat) : Prop where
  start : st0 ∈ seen
  reach : ∀ s ∈ seen, Reach p N s
  nodup : seen.Nodup
  wsub : ∀ s ∈ W, s ∈ seen
  wnodup : W.Nodup
  enodup : E.Nodup
  eiff : ∀ u, u ∈ E ↔ u ∈ seen ∧ u ∉ W ∧ stepsS p N u = []
  sin : s ∈ seen
  sout : s ∉ W
  closed : ∀ u ∈ seen, u ∉ W → u ≠ s → ∀ t ∈ stepsS p N u, t ∈ seen
  done : ∀ t ∈ (stepsS p N s).take k, t ∈ seen
  bound : n + weight p W + ((stepsS p N s).length - k) * 7 ^ (phi p s - 1) ≤ most
  size : seen.length = n + W.length
  esize : E.length ≤ n

theorem Srch.init {p : List (List Opn)} {N : Nat} (hR : RightS p (N : Int)) : Srch p N [st0] [st0] [] 0 where
  start := by simp
  reach s hs := by obtain rfl : s = st0 := by simpa using hs
                   exact .start
  nodup := by simp
  wsub s hs := hs
  wnodup := by simp
  enodup := by simp
  eiff s := by simp; intro h1 h2; exact absurd h1 h2
  closed s hs hn := absurd hs hn
  bound := by
    have := Nat.pow_le_pow_right (n := 7) (by omega) (phi0 hR)
    simp only [weight, List.map_cons, List.map_nil, List.sum_cons, List.sum_nil, most]
    omega
  size := rfl
  esize := Nat.le_refl _

theorem pow_room {f m : Nat} (h6 : m ≤ 6) (hf : 0 < m → 0 < f) : 1 + m * 7 ^ (f - 1) ≤ 7 ^ f := by
  by_cases h0 : m = 0
  · subst h0
    have : 0 < 7 ^ f := Nat.pow_pos (by omega)
    omega
  · have hf' := hf (by omega)
    obtain ⟨g, rfl⟩ : ∃ g, f = g + 1 := ⟨f - 1, by omega⟩
    have : 0 < 7 ^ g := Nat.pow_pos (by omega)
    have h2 : m * 7 ^ g ≤ 6 * 7 ^ g := Nat.mul_le_mul_right _ h6
    rw [Nat.add_sub_cancel, Nat.pow_succ]
    omega

/-- A state is taken from the list; if it has no steps, it has ended. -/
theorem Srch.take {p : List (List Opn)} {N : Nat} {seen W E : List St} {n : Nat} {s : St} (h : Srch p N seen (W ++ [s]) E n) (hR : RightS p (N : Int)) :
    Look p N s 0 seen W (if stepsS p N s = [] then E ++ [s] else E) (n + 1) := by
  have hsin := h.wsub s (by simp)
  have hok := (h.reach s hsin).ok hR
  have hnd := h.wnodup
  have hsW : s ∉ W := by
    intro hm
    have := (List.nodup_append.1 hnd).2.2 s hm s (by simp)
    exact this rfl
  have hsE : s ∉ E := fun hm => ((h.eiff s).1 hm).2.1 (by simp)
  refine ⟨h.start, h.reach, h.nodup, fun u hu => h.wsub u (by simp [hu]), (List.nodup_append.1 hnd).1, ?_, ?_, hsin, hsW, ?_, by simp, ?_, ?_, ?_⟩
  · split
    · refine List.nodup_append.2 ⟨h.enodup, by simp, ?_⟩
      rintro a ha b hb rfl
      obtain rfl : a = s := by simpa using hb
      exact hsE ha
    · exact h.enodup
  · intro u
    split
    · rename_i h0
      rw [List.mem_append, h.eiff]
      constructor
      · rintro (⟨h1, h2, h3⟩ | h1)
        · exact ⟨h1, fun hw => h2 (by simp [hw]), h3⟩
        · obtain rfl : u = s := by simpa using h1
          exact ⟨hsin, hsW, h0⟩
      · rintro ⟨h1, h2, h3⟩
        by_cases e : u = s
        · exact .inr (by simp [e])
        · exact .inl ⟨h1, by simp [h2, e], h3⟩
    · rename_i h0
      rw [h.eiff]
      constructor
      · rintro ⟨h1, h2, h3⟩
        exact ⟨h1, fun hw => h2 (by simp [hw]), h3⟩
      · rintro ⟨h1, h2, h3⟩
        have e : u ≠ s := fun e => h0 (e ▸ h3)
        exact ⟨h1, by simp [h2, e], h3⟩
  · intro u hu hw hne
    exact h.closed u hu (by simp [hw, hne])
  · have hb := h.bound
    rw [weight_snoc] at hb
    have := pow_room (m := (stepsS p N s).length) (f := phi p s) (steps_len hR s) (fun hp => by
      obtain ⟨t, ht⟩ := List.exists_mem_of_length_pos hp
      have := phi_step hok hR ht
      omega)
    rw [Nat.sub_zero]
    omega
  · have := h.size
    simp at this ⊢
    omega
  · have := h.esize
    split <;> simp <;> omega

theorem take_succ_mem {α : Type} {l : List α} {k : Nat} {t u : α} (hk : l[k]? = some t) (h : u ∈ l.take (k + 1)) : u ∈ l.take k ∨ u = t := by
  rw [List.take_add_one, hk] at h
  simpa using h

/-- A step that has been seen. -/
theorem Look.old {p : List (List Opn)} {N : Nat} {s t : St} {k : Nat} {seen W E : List St} {n : Nat} (h : Look p N s k seen W E n) (hk : (stepsS p N s)[k]? = some t) (ht : t ∈ seen) : Look p N s (k + 1) seen W E n where
  start := h.start
  reach := h.reach
  nodup := h.nodup
  wsub := h.wsub
  wnodup := h.wnodup
  enodup := h.enodup
  eiff := h.eiff
  sin := h.sin
  sout := h.sout
  closed := h.closed
  done u hu := by
    rcases take_succ_mem hk hu with hu | rfl
    · exact h.done u hu
    · exact ht
  bound := by
    have := h.bound
    have h2 : ((stepsS p N s).length - (k + 1)) * 7 ^ (phi p s - 1) ≤ ((stepsS p N s).length - k) * 7 ^ (phi p s - 1) := Nat.mul_le_mul_right _ (by omega)
    omega
  size := h.size
  esize := h.esize

/-- A step that has not. -/
theorem Look.new {p : List (List Opn)} {N : Nat} {s t : St} {k : Nat} {seen W E : List St} {n : Nat} (h : Look p N s k seen W E n) (hR : RightS p (N : Int)) (hk : (stepsS p N s)[k]? = some t) (ht : t ∉ seen) : Look p N s (k + 1) (seen ++ [t]) (W ++ [t]) E n := by
  have hmem := List.mem_of_getElem? hk
  have hlt := (List.getElem?_eq_some_iff.1 hk).1
  have hok := (h.reach s h.sin).ok hR
  have hst : s ≠ t := fun e => ht (e ▸ h.sin)
  have hup : ∀ {L M : List St} {x : St}, x ∉ M → M.Nodup → (M ++ [x]).Nodup := by
    intro _ M x hx hM
    refine List.nodup_append.2 ⟨hM, by simp, ?_⟩
    rintro a ha b hb rfl
    obtain rfl : a = x := by simpa using hb
    exact hx ha
  refine ⟨by simp [h.start], ?_, hup (L := []) ht h.nodup, ?_, hup (L := []) (fun hw => ht (h.wsub t hw)) h.wnodup, h.enodup, ?_, by simp [h.sin], by simp [h.sout, hst], ?_, ?_, ?_, ?_, h.esize⟩
  · intro u hu
    rcases List.mem_append.1 hu with hu | hu
    · exact h.reach u hu
    · obtain rfl : u = t := by simpa using hu
      exact (h.reach s h.sin).step hmem
  · intro u hu
    rcases List.mem_append.1 hu with hu | hu
    · exact List.mem_append_left _ (h.wsub u hu)
    · exact List.mem_append_right _ hu
  · intro u
    rw [h.eiff]
    constructor
    · rintro ⟨h1, h2, h3⟩
      exact ⟨by simp [h1], fun hw => by
        rcases List.mem_append.1 hw with hw | hw
        · exact h2 hw
        · obtain rfl : u = t := by simpa using hw
          exact ht h1, h3⟩
    · rintro ⟨h1, h2, h3⟩
      have hu : u ≠ t := fun e => h2 (by simp [e])
      exact ⟨by simpa [hu] using h1, fun hw => h2 (by simp [hw]), h3⟩
  · intro u hu hw hne x hx
    have hut : u ≠ t := fun e => hw (by simp [e])
    exact List.mem_append_left _ (h.closed u (by simpa [hut] using hu) (fun hw' => hw (by simp [hw'])) hne x hx)
  · intro u hu
    rcases take_succ_mem hk hu with hu | rfl
    · exact List.mem_append_left _ (h.done u hu)
    · simp
  · have hb := h.bound
    rw [weight_snoc]
    have h1 : 7 ^ phi p t ≤ 7 ^ (phi p s - 1) := Nat.pow_le_pow_right (by omega) (by have := phi_step hok hR hmem; omega)
    obtain ⟨m, hm⟩ : ∃ m, (stepsS p N s).length - k = m + 1 := ⟨(stepsS p N s).length - k - 1, by omega⟩
    rw [hm, Nat.succ_mul] at hb
    have e : (stepsS p N s).length - (k + 1) = m := by omega
    rw [e]
    omega
  · have := h.size
    simp
    omega

/-- All steps have been looked through. -/
theorem Look.all {p : List (List Opn)} {N : Nat} {s : St} {k : Nat} {seen W E : List St} {n : Nat} (h : Look p N s k seen W E n) (hk : (stepsS p N s).length ≤ k) : Srch p N seen W E n where
  start := h.start
  reach := h.reach
  nodup := h.nodup
  wsub := h.wsub
  wnodup := h.wnodup
  enodup := h.enodup
  eiff := h.eiff
  closed u hu hw := by
    by_cases e : u = s
    · subst e
      intro t ht
      exact h.done t (by rw [List.take_of_length_le hk]; exact ht)
    · exact h.closed u hu hw e
  bound := by
    have := h.bound
    omega
  size := h.size
  esize := h.esize

/-- What a search finds: the states in which an execution can end, each once. -/
structure EndsOf (p : List (List Opn)) (N : Nat) (E : List St) : Prop where
  nodup : E.Nodup
  iff : ∀ s, s ∈ E ↔ Reach p N s ∧ stepsS p N s = []
  size : E.length ≤ most

theorem Srch.ends {p : List (List Opn)} {N : Nat} {seen E : List St} {n : Nat} (h : Srch p N seen [] E n) : EndsOf p N E where
  nodup := h.enodup
  iff s := by
    rw [h.eiff]
    constructor
    · rintro ⟨h1, _, h3⟩
      exact ⟨h.reach s h1, h3⟩
    · rintro ⟨h1, h3⟩
      refine ⟨?_, by simp, h3⟩
      clear h3
      induction h1 with
      | start => exact h.start
      | step _ ht ih => exact h.closed _ ih (by simp) _ ht
  size := by
    have := h.bound
    have := h.esize
    omega

#print axioms Srch.take
#print axioms Look.new
#print axioms Srch.ends
end Go.Proofs.Ytgljgpllooehkaa
