/-
  Layer 7 (litmus), no program in it: a program of one core has one outcome: that of its operations one after the other.
  Conditions: those that each theorem states.
-/
import Derived.Test.YtgljgpllooehkaaLit22
namespace Go.Proofs.Ytgljgpllooehkaa

/-- One operation, without a buffer. -/
def seqS (x : List Int × List Int) (o : Opn) : List Int × List Int :=
  if o.kind = 1 then (x.1.set o.reg.toNat (x.2.getD o.addr.toNat 0), x.2)
  else if o.kind = 2 then (x.1, x.2.set o.addr.toNat o.word)
  else if o.kind = 4 then (x.1.set o.reg.toNat (x.2.getD o.addr.toNat 0), x.2.set o.addr.toNat o.word)
  else x

def seqR (l : List Opn) : List Int × List Int := l.foldl seqS ([0, 0, 0, 0], [0, 0, 0, 0])

theorem seqR_more {l : List Opn} {k : Nat} {o : Opn} (h : l[k]? = some o) : seqR (l.take (k + 1)) = seqS (seqR (l.take k)) o := by
  unfold seqR
  rw [List.take_add_one, h]
  simp

theorem getD_set_int {m : List Int} {i j : Nat} {x : Int} (hi : i < m.length) : (m.set i x).getD j 0 = if i = j then x else m.getD j 0 := by
  rw [List.getD_eq_getElem?_getD, List.getD_eq_getElem?_getD, List.getElem?_set]
  by_cases e : i = j
  · rw [if_pos e, if_pos e, if_pos (by omega)]; rfl
  · rw [if_neg e, if_neg e]

/-- What a core sees is what the memory will hold. -/
theorem sees_eq : ∀ (q : List (Int × Int)) (m : List Int) (a : Int), (∀ p ∈ q, 0 ≤ p.1 ∧ p.1 ≤ 3) → 0 ≤ a → m.length = 4 → sees q m a = (q.foldl wrt m).getD a.toNat 0
  | [], _, _, _, _, _ => rfl
  | p :: q, m, a, hq, ha, hm => by
    have ih := sees_eq q (wrt m p) a (fun x hx => hq x (by simp [hx])) ha (by rw [wrt_len]; exact hm)
    rw [List.foldl_cons, ← ih]
    unfold sees
    rw [List.foldl_cons]
    have hp := hq p (by simp)
    congr 1
    unfold wrt
    rw [getD_set_int (by rw [hm]; omega)]
    by_cases e : p.1 = a
    · rw [if_pos e, if_pos (by omega)]
    · rw [if_neg e, if_neg (by omega)]

/-- What holds of the one core. -/
structure SeqAt (l : List Opn) (s : St) : Prop where
  ex : ∃ c, s.cores[0]? = some c ∧ c.regs = (seqR (l.take c.next)).1 ∧ c.buf.foldl wrt s.mem = (seqR (l.take c.next)).2

theorem seq_step {l : List Opn} {N : Nat} {s t : St} (hR : RightS [l] (N : Int)) (hok : StOk [l] N s) (h : SeqAt l s) (ht : t ∈ stepsS [l] N s) : SeqAt l t := by
  obtain ⟨c, hc, h1, h2⟩ := h.ex
  have hcok := hok.sh.core 0 c hc
  have hr := hok.room 0 c hc
  obtain ⟨i, hi, hm⟩ := List.mem_flatMap.1 ht
  have hi0 : i = 0 := by have := List.mem_range.1 hi; simp at this; omega
  subst hi0
  rw [stepsAt_core hc (l := l) rfl] at hm
  rcases List.mem_append.1 hm with hm | hm
  · cases ho : l[c.next]? with
    | none => rw [ho] at hm; simp at hm
    | some o =>
      rw [ho] at hm
      obtain rfl : t = execS N 0 o s := by simpa using hm
      obtain ⟨k1, k4, a0, a3, g0, g3, x0, x9⟩ := (hR.each l (by simp)).2 o (List.mem_of_getElem? ho)
      have hsm := seqR_more ho
      have hse := sees_eq c.buf s.mem o.addr (fun p hp => ⟨(hcok.bufd p hp).1, (hcok.bufd p hp).2.1⟩) a0 hok.sh.mem
      have c1 := next_core hc
      have hb0 : bufOf 0 s = c.buf := by simp [bufOf, hc]
      have hb1 : bufOf 0 (nextS 0 s) = c.buf := by simp [bufOf, c1]
      have hm1 : (nextS 0 s).mem = s.mem := by rw [next_eq hc]
      rcases (show o.kind = 1 ∨ o.kind = 2 ∨ o.kind = 3 ∨ o.kind = 4 by omega) with k | k | k | k
      · have e : execS N 0 o s = regS 0 o.reg (sees c.buf s.mem o.addr) (nextS 0 s) := by unfold execS; rw [if_pos k, hb0]
        rw [e, reg_eq c1]
        refine ⟨⟨_, set_at' c1 _, ?_, ?_⟩⟩
        · show c.regs.set _ _ = (seqR (l.take (c.next + 1))).1
          rw [hsm, hse, h2, h1]; simp [seqS, k]
        · show c.buf.foldl wrt (nextS 0 s).mem = (seqR (l.take (c.next + 1))).2
          rw [hsm, hm1, h2]; simp [seqS, k]
      · have e : execS N 0 o s = storeS N 0 (o.addr, o.word) (nextS 0 s) := by unfold execS; rw [if_neg (by omega), if_pos k]
        have hw : wrt (seqR (l.take c.next)).2 (o.addr, o.word) = (seqR (l.take (c.next + 1))).2 := by rw [hsm]; simp [seqS, k, wrt]
        have hg : c.regs = (seqR (l.take (c.next + 1))).1 := by rw [hsm, h1]; simp [seqS, k]
        rw [e]
        unfold storeS
        by_cases h0 : N = 0
        · rw [if_pos h0]
          have hbuf : c.buf = [] := List.eq_nil_of_length_eq_zero (by omega)
          refine ⟨⟨_, c1, hg, ?_⟩⟩
          show c.buf.foldl wrt (wrt (nextS 0 s).mem (o.addr, o.word)) = _
          rw [hbuf] at h2 ⊢
          rw [← hw, ← h2, hm1]; rfl
        · rw [if_neg h0, hb1]
          by_cases hf : c.buf.length = N
          · rw [if_pos hf]
            cases hb : c.buf with
            | nil => rw [hb] at hf; simp at hf; omega
            | cons p0 q =>
              have c2 := drain_core c1 hb
              rw [push_eq c2]
              refine ⟨⟨_, set_at' c2 _, hg, ?_⟩⟩
              show (q ++ [(o.addr, o.word)]).foldl wrt (drainS 0 (nextS 0 s)).mem = _
              rw [drain_eq (s := nextS 0 s) c1 hb, List.foldl_append, ← hw, ← h2, hb, hm1]; rfl
          · rw [if_neg hf, push_eq c1]
            refine ⟨⟨_, set_at' c1 _, hg, ?_⟩⟩
            show (c.buf ++ [(o.addr, o.word)]).foldl wrt (nextS 0 s).mem = _
            rw [List.foldl_append, hm1, h2, ← hw]; rfl
      · have e : execS N 0 o s = flushS 0 (nextS 0 s) := by unfold execS; rw [if_neg (by omega), if_neg (by omega), if_pos k]
        rw [e, flush_eq c1]
        refine ⟨⟨_, set_at' c1 _, ?_, ?_⟩⟩
        · show c.regs = (seqR (l.take (c.next + 1))).1
          rw [hsm, h1]; simp [seqS, k]
        · show c.buf.foldl wrt (nextS 0 s).mem = (seqR (l.take (c.next + 1))).2
          rw [hsm, hm1, h2]; simp [seqS, k]
      · have c2 := flush_core c1
        have hfm : (flushS 0 (nextS 0 s)).mem = (seqR (l.take c.next)).2 := by rw [flush_eq c1]; show c.buf.foldl wrt (nextS 0 s).mem = _; rw [hm1, h2]
        have e : execS N 0 o s = ⟨(regS 0 o.reg ((flushS 0 (nextS 0 s)).mem.getD o.addr.toNat 0) (flushS 0 (nextS 0 s))).cores, wrt (regS 0 o.reg ((flushS 0 (nextS 0 s)).mem.getD o.addr.toNat 0) (flushS 0 (nextS 0 s))).mem (o.addr, o.word)⟩ := by
          unfold execS; rw [if_neg (by omega), if_neg (by omega), if_neg (by omega), if_pos k]
        rw [e, reg_eq c2]
        refine ⟨⟨_, set_at' c2 _, ?_, ?_⟩⟩
        · show c.regs.set _ _ = (seqR (l.take (c.next + 1))).1
          rw [hsm, hfm, h1]; simp [seqS, k]
        · show wrt (flushS 0 (nextS 0 s)).mem (o.addr, o.word) = (seqR (l.take (c.next + 1))).2
          rw [hsm, hfm]; simp [seqS, k, wrt]
  · by_cases hb : c.buf = []
    · rw [if_pos hb] at hm; simp at hm
    · rw [if_neg hb] at hm
      obtain rfl : t = drainS 0 s := by simpa using hm
      cases e : c.buf with
      | nil => exact absurd e hb
      | cons q0 q =>
        rw [drain_eq hc e]
        refine ⟨⟨_, set_at' hc _, h1, ?_⟩⟩
        show q.foldl wrt (wrt s.mem q0) = _
        rw [← h2, e]; rfl

theorem Reach.seq {l : List Opn} {N : Nat} {s : St} (hR : RightS [l] (N : Int)) (h : Reach [l] N s) : SeqAt l s := by
  induction h with
  | start => exact ⟨⟨core0, rfl, by simp [core0, seqR], by simp [core0, seqR, st0]⟩⟩
  | step hs ht ih => exact seq_step hR (hs.ok hR) ih ht

/-- The one outcome. -/
theorem out_alone {l : List Opn} {N : Nat} (hR : RightS [l] (N : Int)) (x : List Int) : IsOut [l] N x ↔ x = (seqR l).1 ++ (seqR l).2 := by
  have key : ∀ s, Reach [l] N s → stepsS [l] N s = [] → outS 1 s = (seqR l).1 ++ (seqR l).2 := by
    intro s hs he
    obtain ⟨c, hc, h1, h2⟩ := (hs.seq hR).ex
    obtain ⟨h3, h4⟩ := end_core (hs.ok hR) he (i := 0) (by simp) hc
    have h3' : c.next = l.length := h3
    rw [h3', List.take_length] at h1 h2
    rw [h4] at h2
    obtain ⟨a, b, d, e⟩ := three (hs.ok hR).sh.len
    rw [e] at hc
    obtain rfl : a = c := by simpa using hc
    have h2' : s.mem = (seqR l).2 := h2
    unfold outS
    rw [e, h2', ← h1]
    simp
  constructor
  · rintro ⟨s, h1, h2, rfl⟩
    exact key s h1 h2
  · rintro rfl
    obtain ⟨t, h1, h2⟩ := can_end hR _ st0 rfl .start
    exact ⟨t, h1, h2, key t h1 h2⟩

#print axioms out_alone
end Go.Proofs.Ytgljgpllooehkaa
