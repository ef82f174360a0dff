/-
  Layer 7 (litmus), no program in it: with a fence behind each operation there are the outcomes of capacity 0.
  Conditions: those that each theorem states.
-/
import Derived.Test.YtgljgpllooehkaaLit22
set_option linter.unusedSimpArgs false
namespace Go.Proofs.Ytgljgpllooehkaa

def fnc : Opn := ⟨3, 0, 0, 0⟩
def fenceL (l : List Opn) : List Opn := l.flatMap fun o => [o, fnc]
def fenceP (p : List (List Opn)) : List (List Opn) := p.map fenceL

theorem fenceL_len (l : List Opn) : (fenceL l).length = 2 * l.length := by
  unfold fenceL
  induction l with
  | nil => rfl
  | cons o l ih => simp only [List.flatMap_cons, List.length_append, List.length_cons, List.length_nil, ih]; omega

theorem fenceL_even (l : List Opn) (k : Nat) : (fenceL l)[2 * k]? = l[k]? := by
  induction l generalizing k with
  | nil => simp [fenceL]
  | cons o l ih =>
    cases k with
    | zero => rfl
    | succ k =>
      have := ih k
      show (o :: fnc :: fenceL l)[2 * k + 1 + 1]? = _
      simpa using this

theorem fenceL_odd {l : List Opn} {k : Nat} (hk : k < l.length) : (fenceL l)[2 * k + 1]? = some fnc := by
  induction l generalizing k with
  | nil => simp at hk
  | cons o l ih =>
    cases k with
    | zero => rfl
    | succ k =>
      have := ih (k := k) (by simpa using hk)
      show (o :: fnc :: fenceL l)[2 * k + 1 + 1 + 1]? = _
      simpa using this

def regX (o : Opn) (g m : List Int) : List Int := if o.kind = 1 ∨ o.kind = 4 then g.set o.reg.toNat (m.getD o.addr.toNat 0) else g
def memX (o : Opn) (m : List Int) : List Int := if o.kind = 2 ∨ o.kind = 4 then wrt m (o.addr, o.word) else m

theorem exec_zero {s : St} {i n : Nat} {g : List Int} (hc : s.cores[i]? = some ⟨n, g, []⟩) (o : Opn) (ho : 1 ≤ o.kind ∧ o.kind ≤ 4) : execS 0 i o s = ⟨s.cores.set i ⟨n + 1, regX o g s.mem, []⟩, memX o s.mem⟩ := by
  obtain ⟨hlt, he⟩ := List.getElem?_eq_some_iff.1 hc
  clear hc
  rcases (show o.kind = 1 ∨ o.kind = 2 ∨ o.kind = 3 ∨ o.kind = 4 by omega) with k | k | k | k <;>
    simp [execS, k, regX, memX, regS, nextS, storeS, flushS, he, bufOf, sees, hlt]

theorem exec_wait {s : St} {N i n : Nat} {g : List Int} (hN : 0 < N) (hc : s.cores[i]? = some ⟨n, g, []⟩) (o : Opn) (k : o.kind = 2) : execS N i o s = ⟨s.cores.set i ⟨n + 1, g, [(o.addr, o.word)]⟩, s.mem⟩ := by
  obtain ⟨hlt, he⟩ := List.getElem?_eq_some_iff.1 hc
  clear hc
  have h0 : ¬ N = 0 := by omega
  have h1 : ¬ 0 = N := by omega
  simp [execS, k, nextS, storeS, pushS, he, bufOf, hlt, h0, h1]

theorem exec_fence {s : St} {N i n : Nat} {g : List Int} {q : List (Int × Int)} (hc : s.cores[i]? = some ⟨n, g, q⟩) : execS N i fnc s = ⟨s.cores.set i ⟨n + 1, g, []⟩, q.foldl wrt s.mem⟩ := by
  obtain ⟨hlt, he⟩ := List.getElem?_eq_some_iff.1 hc
  clear hc
  simp [execS, fnc, nextS, flushS, he, hlt]

/-- One core of the fenced programs, beside the same core without fences. -/
inductive CoreSim (l : List Opn) : Core → Core → Prop
  | even (k : Nat) (g : List Int) : CoreSim l ⟨2 * k, g, []⟩ ⟨k, g, []⟩
  | odd (k : Nat) (g : List Int) : k < l.length → CoreSim l ⟨2 * k + 1, g, []⟩ ⟨k + 1, g, []⟩
  | wait (k : Nat) (g : List Int) (o : Opn) : l[k]? = some o → o.kind = 2 → CoreSim l ⟨2 * k + 1, g, [(o.addr, o.word)]⟩ ⟨k, g, []⟩

structure Sim (p : List (List Opn)) (t s : St) : Prop where
  mem : t.mem = s.mem
  len : t.cores.length = s.cores.length
  core : ∀ (i : Nat) (c d : Core), t.cores[i]? = some c → s.cores[i]? = some d → CoreSim (p.getD i []) c d

theorem set_some {α : Type} {l : List α} {i : Nat} {c a : α} (h : (l.set i c)[i]? = some a) : a = c := by
  have hlt : i < l.length := by have := (List.getElem?_eq_some_iff.1 h).1; simpa using this
  rw [List.getElem?_set_self hlt] at h
  injection h with h
  exact h.symm

theorem Sim.set {p : List (List Opn)} {t s : St} (h : Sim p t s) {i : Nat} {c d : Core} {m : List Int} (hcd : CoreSim (p.getD i []) c d) : Sim p ⟨t.cores.set i c, m⟩ ⟨s.cores.set i d, m⟩ where
  mem := rfl
  len := by simpa using h.len
  core j a b ha hb := by
    by_cases e : i = j
    · subst e
      rw [set_some ha, set_some hb]
      exact hcd
    · simp only [List.getElem?_set_ne e] at ha hb
      exact h.core j a b ha hb

theorem Sim.half {p : List (List Opn)} {t s : St} (h : Sim p t s) {i : Nat} {c d : Core} (hd : s.cores[i]? = some d) (hcd : CoreSim (p.getD i []) c d) : Sim p ⟨t.cores.set i c, t.mem⟩ s where
  mem := h.mem
  len := by simpa using h.len
  core j a b ha hb := by
    by_cases e : i = j
    · subst e
      rw [set_some ha]
      rw [hd] at hb
      injection hb with hb
      subst hb
      exact hcd
    · simp only [List.getElem?_set_ne e] at ha
      exact h.core j a b ha hb

theorem getD_fence (p : List (List Opn)) (i : Nat) : (fenceP p).getD i [] = fenceL (p.getD i []) := by
  rw [List.getD_eq_getElem?_getD, List.getD_eq_getElem?_getD]
  unfold fenceP
  rw [List.getElem?_map]
  cases p[i]? <;> rfl

theorem exec_same {s : St} {N i n : Nat} {g : List Int} (hc : s.cores[i]? = some ⟨n, g, []⟩) (o : Opn) (ho : 1 ≤ o.kind ∧ o.kind ≤ 4) (h2 : o.kind ≠ 2 ∨ N = 0) : execS N i o s = ⟨s.cores.set i ⟨n + 1, regX o g s.mem, []⟩, memX o s.mem⟩ := by
  rcases h2 with h2 | rfl
  · rw [exec_other (M := 0) h2, exec_zero hc o ho]
  · exact exec_zero hc o ho

/-- A step of the fenced programs: none or one of those without fences. -/
theorem sim_step {p : List (List Opn)} {N : Nat} {t s u : St} (hR : RightS p (N : Int)) (h : Sim p t s) (hs : s.cores.length = 3) (hu : u ∈ stepsS (fenceP p) N t) : ∃ v, (v = s ∨ v ∈ stepsS p 0 s) ∧ Sim p u v := by
  obtain ⟨i, hi, hm⟩ := List.mem_flatMap.1 hu
  have hip : i < p.length := by have := List.mem_range.1 hi; simpa [fenceP] using this
  have hi3 : i < 3 := by have := hR.hi; omega
  obtain ⟨l, hl⟩ : ∃ l, p[i]? = some l := ⟨_, List.getElem?_eq_getElem hip⟩
  have hgl : p.getD i [] = l := by rw [List.getD_eq_getElem?_getD, hl]; rfl
  have hfl : (fenceP p)[i]? = some (fenceL l) := by unfold fenceP; rw [List.getElem?_map, hl]; rfl
  obtain ⟨c, hc⟩ : ∃ c, t.cores[i]? = some c := ⟨_, List.getElem?_eq_getElem (by rw [h.len, hs]; exact hi3)⟩
  obtain ⟨d, hd⟩ : ∃ d, s.cores[i]? = some d := ⟨_, List.getElem?_eq_getElem (by rw [hs]; exact hi3)⟩
  have hok := (hR.each l (List.mem_of_getElem? hl)).2
  rw [stepsAt_core hc hfl] at hm
  have hcd := h.core i c d hc hd
  rw [hgl] at hcd
  rcases List.mem_append.1 hm with hm | hm
  · cases hcd with
    | even k g =>
      have e := fenceL_even l k
      simp only [e] at hm
      cases ho : l[k]? with
      | none => rw [ho] at hm; simp at hm
      | some o =>
        rw [ho] at hm
        obtain rfl : u = execS N i o t := by simpa using hm
        have hk := hok o (List.mem_of_getElem? ho)
        have hkl := (List.getElem?_eq_some_iff.1 ho).1
        by_cases h2 : o.kind ≠ 2 ∨ N = 0
        · refine ⟨execS 0 i o s, .inr (step_exec hd hl ho), ?_⟩
          rw [exec_same hc o ⟨hk.1, hk.2.1⟩ h2, exec_zero hd o ⟨hk.1, hk.2.1⟩, h.mem]
          exact h.set (by rw [hgl]; exact CoreSim.odd k _ hkl)
        · have h2' : o.kind = 2 := by omega
          refine ⟨s, .inl rfl, ?_⟩
          rw [exec_wait (by omega) hc o h2']
          exact h.half hd (by rw [hgl]; exact CoreSim.wait k g o ho h2')
    | odd k g hk =>
      have e := fenceL_odd hk
      simp only [e] at hm
      obtain rfl : u = execS N i fnc t := by simpa using hm
      refine ⟨s, .inl rfl, ?_⟩
      rw [exec_fence hc]
      exact h.half hd (by rw [hgl]; exact CoreSim.even (k + 1) g)
    | wait k g o ho h2 =>
      have hkl := (List.getElem?_eq_some_iff.1 ho).1
      have e := fenceL_odd hkl
      simp only [e] at hm
      obtain rfl : u = execS N i fnc t := by simpa using hm
      have hk := hok o (List.mem_of_getElem? ho)
      refine ⟨execS 0 i o s, .inr (step_exec hd hl ho), ?_⟩
      rw [exec_fence hc, exec_zero hd o ⟨hk.1, hk.2.1⟩]
      have e1 : memX o s.mem = [(o.addr, o.word)].foldl wrt t.mem := by rw [h.mem]; simp [memX, h2]
      have e2 : regX o g s.mem = g := by simp [regX, h2]
      rw [e1, e2]
      exact h.set (by rw [hgl]; exact CoreSim.even (k + 1) g)
  · cases hcd with
    | even k g => simp at hm
    | odd k g hk => simp at hm
    | wait k g o ho h2 =>
      have hkl := (List.getElem?_eq_some_iff.1 ho).1
      obtain rfl : u = drainS i t := by simpa using hm
      have hk := hok o (List.mem_of_getElem? ho)
      refine ⟨execS 0 i o s, .inr (step_exec hd hl ho), ?_⟩
      rw [drain_eq hc (p := (o.addr, o.word)) (q := []) rfl, exec_zero hd o ⟨hk.1, hk.2.1⟩]
      have e1 : memX o s.mem = wrt t.mem (o.addr, o.word) := by rw [h.mem]; simp [memX, h2]
      have e2 : regX o g s.mem = g := by simp [regX, h2]
      rw [e1, e2]
      exact h.set (by rw [hgl]; exact CoreSim.odd k g hkl)

theorem right_zero {p : List (List Opn)} {N : Int} (h : RightS p N) : RightS p ((0 : Nat) : Int) := ⟨h.lo, h.hi, by omega, by omega, h.each, h.all⟩

theorem sim_reach {p : List (List Opn)} {N : Nat} {t : St} (hR : RightS p (N : Int)) (h : Reach (fenceP p) N t) : ∃ s, Reach p 0 s ∧ Sim p t s := by
  induction h with
  | start =>
    refine ⟨st0, .start, rfl, rfl, fun i c d hc hd => ?_⟩
    rw [hc] at hd
    injection hd with hd
    subst hd
    have : c = core0 := by
      have := List.mem_of_getElem? hc
      simpa [st0] using this
    subst this
    exact CoreSim.even 0 _
  | step _ hu ih =>
    obtain ⟨s, hs, hsim⟩ := ih
    obtain ⟨v, hv, hsv⟩ := sim_step hR hsim (hs.ok (right_zero hR)).sh.len hu
    rcases hv with rfl | hv
    · exact ⟨_, hs, hsv⟩
    · exact ⟨v, hs.step hv, hsv⟩

/-- Each core twice as far, with nothing pending. -/
def dblC (c : Core) : Core := ⟨2 * c.next, c.regs, []⟩
def dblS (s : St) : St := ⟨s.cores.map dblC, s.mem⟩

theorem dbl_reach {p : List (List Opn)} {N : Nat} {s : St} (hR : RightS p (N : Int)) (h : Reach p 0 s) : Reach (fenceP p) N (dblS s) := by
  induction h with
  | start => exact .start
  | @step s u hs hu ih =>
    have hok := hs.ok (right_zero hR)
    obtain ⟨i, hi, hm⟩ := List.mem_flatMap.1 hu
    have hip : i < p.length := by simpa using hi
    have hi3 : i < 3 := by have := hR.hi; omega
    obtain ⟨l, hl⟩ : ∃ l, p[i]? = some l := ⟨_, List.getElem?_eq_getElem hip⟩
    have hfl : (fenceP p)[i]? = some (fenceL l) := by unfold fenceP; rw [List.getElem?_map, hl]; rfl
    obtain ⟨d, hd⟩ : ∃ d, s.cores[i]? = some d := ⟨_, List.getElem?_eq_getElem (by rw [hok.sh.len]; exact hi3)⟩
    have hb : d.buf = [] := List.eq_nil_of_length_eq_zero (by have := hok.room i d hd; omega)
    obtain ⟨k, g, b⟩ := d
    simp only at hb
    subst hb
    have hc : (dblS s).cores[i]? = some ⟨2 * k, g, []⟩ := by simp [dblS, hd, dblC]
    rw [stepsAt_core hd hl] at hm
    rcases List.mem_append.1 hm with hm | hm
    · cases ho : l[k]? with
      | none => simp only [ho] at hm; simp at hm
      | some o =>
        simp only [ho] at hm
        obtain rfl : u = execS 0 i o s := by simpa using hm
        have hk := (hR.each l (List.mem_of_getElem? hl)).2 o (List.mem_of_getElem? ho)
        have hkl := (List.getElem?_eq_some_iff.1 ho).1
        have r1 := ih.step (step_exec (N := N) hc hfl (by simp only [fenceL_even]; exact ho))
        have key : execS N i fnc (execS N i o (dblS s)) = dblS (execS 0 i o s) := by
          rw [exec_zero hd o ⟨hk.1, hk.2.1⟩]
          by_cases h2 : o.kind ≠ 2 ∨ N = 0
          · rw [exec_same hc o ⟨hk.1, hk.2.1⟩ h2, exec_fence (set_at' hc _)]
            simp [dblS, List.map_set, dblC, Nat.mul_add]
          · have h2' : o.kind = 2 := by omega
            rw [exec_wait (by omega) hc o h2', exec_fence (set_at' hc _)]
            simp [dblS, List.map_set, dblC, Nat.mul_add, memX, regX, h2']
        have hc1 : ∃ q, (execS N i o (dblS s)).cores[i]? = some ⟨2 * k + 1, regX o g s.mem, q⟩ := by
          by_cases h2 : o.kind ≠ 2 ∨ N = 0
          · rw [exec_same hc o ⟨hk.1, hk.2.1⟩ h2]
            exact ⟨_, set_at' hc _⟩
          · have h2' : o.kind = 2 := by omega
            rw [exec_wait (by omega) hc o h2']
            have e2 : regX o g s.mem = g := by simp [regX, h2']
            rw [e2]
            exact ⟨_, set_at' hc _⟩
        obtain ⟨q, hc1⟩ := hc1
        rw [← key]
        exact r1.step (step_exec (N := N) hc1 hfl (fenceL_odd hkl))
    · simp at hm

theorem steps_none {p : List (List Opn)} {N : Nat} {s : St} (h : ∀ i c, i < p.length → s.cores[i]? = some c → c.next = (p.getD i []).length ∧ c.buf = []) (hl : p.length ≤ s.cores.length) : stepsS p N s = [] := by
  unfold stepsS
  rw [List.flatMap_eq_nil_iff]
  intro i hi
  have hip : i < p.length := by simpa using hi
  obtain ⟨c, hc⟩ : ∃ c, s.cores[i]? = some c := ⟨_, List.getElem?_eq_getElem (by omega)⟩
  obtain ⟨l, hl⟩ : ∃ l, p[i]? = some l := ⟨_, List.getElem?_eq_getElem hip⟩
  have hgl : p.getD i [] = l := by rw [List.getD_eq_getElem?_getD, hl]; rfl
  obtain ⟨h1, h2⟩ := h i c hip hc
  rw [hgl] at h1
  rw [stepsAt_core hc hl, h2, h1, List.getElem?_eq_none (Nat.le_refl _)]
  rfl

theorem out_fenced {p : List (List Opn)} {N : Nat} (hR : RightS p (N : Int)) (hF : RightS (fenceP p) (N : Int)) (x : List Int) : IsOut (fenceP p) N x ↔ IsOut p 0 x := by
  have hlen : (fenceP p).length = p.length := by simp [fenceP]
  have h3 := hR.hi
  constructor
  · rintro ⟨t, ht, he, rfl⟩
    obtain ⟨s, hs, hsim⟩ := sim_reach hR ht
    have hokt := ht.ok hF
    have hoks := hs.ok (right_zero hR)
    have each : ∀ i c d, t.cores[i]? = some c → s.cores[i]? = some d → c.regs = d.regs ∧ (i < p.length → d.next = (p.getD i []).length ∧ d.buf = []) := by
      intro i c d hc hd
      have hcd := hsim.core i c d hc hd
      refine ⟨by cases hcd <;> rfl, fun hip => ?_⟩
      obtain ⟨h1, h2⟩ := end_core hokt he (by rw [hlen]; exact hip) hc
      rw [getD_fence, fenceL_len] at h1
      cases hcd with
      | even k g => exact ⟨by simp only at h1; show k = _; omega, rfl⟩
      | odd k g hk => simp only at h1; omega
      | wait k g o ho hk => simp at h2
    refine ⟨s, hs, steps_none (fun i d hip hd => ?_) (by rw [hoks.sh.len]; exact h3), ?_⟩
    · obtain ⟨c, hc⟩ : ∃ c, t.cores[i]? = some c := ⟨_, List.getElem?_eq_getElem (by rw [hokt.sh.len]; omega)⟩
      exact (each i c d hc hd).2 hip
    · rw [hlen]
      obtain ⟨a, b, c, ea⟩ := three hokt.sh.len
      obtain ⟨a', b', c', eb⟩ := three hoks.sh.len
      have e0 := (each 0 a a' (by rw [ea]; rfl) (by rw [eb]; rfl)).1
      have e1 := (each 1 b b' (by rw [ea]; rfl) (by rw [eb]; rfl)).1
      have e2 := (each 2 c c' (by rw [ea]; rfl) (by rw [eb]; rfl)).1
      unfold outS
      rw [ea, eb, hsim.mem]
      congr 1
      have hp1 := hR.lo
      rcases (show p.length = 1 ∨ p.length = 2 ∨ p.length = 3 by omega) with e | e | e <;> simp [e, e0, e1, e2]
  · rintro ⟨s, hs, he, rfl⟩
    have hoks := hs.ok (right_zero hR)
    refine ⟨dblS s, dbl_reach hR hs, steps_none (fun i c hip hc => ?_) (by rw [hlen]; simp [dblS, hoks.sh.len]; exact h3), ?_⟩
    · rw [hlen] at hip
      obtain ⟨d, hd⟩ : ∃ d, s.cores[i]? = some d := ⟨_, List.getElem?_eq_getElem (by rw [hoks.sh.len]; omega)⟩
      obtain rfl : dblC d = c := by simpa [dblS, hd] using hc
      obtain ⟨h1, h2⟩ := end_core hoks he hip hd
      rw [getD_fence, fenceL_len]
      exact ⟨by show 2 * d.next = _; rw [h1], rfl⟩
    · rw [hlen]
      unfold outS
      simp [dblS, ← List.map_take, List.flatMap_map, dblC]

#print axioms out_fenced
end Go.Proofs.Ytgljgpllooehkaa
