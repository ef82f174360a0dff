/-
  Layer 7 (litmus), no program in it: the outcomes of programs as one rising list.
  Conditions: those that each theorem states.
-/
import Derived.Test.YtgljgpllooehkaaLit15
namespace Go.Proofs.Ytgljgpllooehkaa

/-- A state without steps has ended. -/
theorem end_core {p : List (List Opn)} {N : Nat} {s : St} (h : StOk p N s) (he : stepsS p N s = []) {i : Nat} {c : Core} (hi : i < p.length) (hc : s.cores[i]? = some c) : c.next = (p.getD i []).length ∧ c.buf = [] := by
  obtain ⟨l, hl⟩ : ∃ l, p[i]? = some l := ⟨_, List.getElem?_eq_getElem hi⟩
  have hgl : p.getD i [] = l := by rw [List.getD_eq_getElem?_getD, hl]; rfl
  have h0 : stepsAt p N s i = [] := by
    unfold stepsS at he
    rw [List.flatMap_eq_nil_iff] at he
    exact he i (List.mem_range.2 hi)
  rw [stepsAt_core hc hl, List.append_eq_nil_iff] at h0
  constructor
  · have h1 := h.next i c hc
    rw [hgl] at h1 ⊢
    cases ho : l[c.next]? with
    | none =>
      have := List.getElem?_eq_none_iff.1 ho
      omega
    | some o =>
      have h2 := h0.1
      rw [ho] at h2
      simp at h2
  · have h2 := h0.2
    by_cases hb : c.buf = []
    · exact hb
    · rw [if_neg hb] at h2; simp at h2

theorem take_flat {s : St} (h : Shape s) : ∀ m, m ≤ 3 → ((s.cores.take m).flatMap (·.regs)).length = m * 4 := by
  intro m hm
  obtain ⟨a, b, c, e⟩ := three h.len
  have ha := (h.core 0 a (by rw [e]; rfl)).regs
  have hb := (h.core 1 b (by rw [e]; rfl)).regs
  have hc := (h.core 2 c (by rw [e]; rfl)).regs
  rw [e]
  match m, hm with
  | 0, _ => rfl
  | 1, _ => simp [ha]
  | 2, _ => simp [ha, hb]
  | 3, _ => simp [ha, hb, hc]

theorem out_len {s : St} (h : Shape s) {m : Nat} (hm : m ≤ 3) : (outS m s).length = m * 4 + 4 := by
  unfold outS
  rw [List.length_append, take_flat h m hm, h.mem]

theorem flat_inj : ∀ {a b : List Core}, a.length = b.length → (∀ c ∈ a, c.regs.length = 4) → (∀ c ∈ b, c.regs.length = 4) → a.flatMap (·.regs) = b.flatMap (·.regs) → a.map (·.regs) = b.map (·.regs)
  | [], [], _, _, _, _ => rfl
  | [], _ :: _, h, _, _, _ => by simp at h
  | _ :: _, [], h, _, _, _ => by simp at h
  | x :: a, y :: b, h, ha, hb, he => by
    simp only [List.flatMap_cons] at he
    obtain ⟨h1, h2⟩ := List.append_inj he (by rw [ha x (by simp), hb y (by simp)])
    simp only [List.map_cons, h1, flat_inj (a := a) (b := b) (by simpa using h) (fun c hc => ha c (by simp [hc])) (fun c hc => hb c (by simp [hc])) h2]

/-- States that have ended differ in their outcomes. -/
theorem out_inj {p : List (List Opn)} {N : Nat} {s t : St} (hR : RightS p (N : Int)) (hs : StOk p N s) (ht : StOk p N t) (es : stepsS p N s = []) (et : stepsS p N t = []) (h : outS p.length s = outS p.length t) : s = t := by
  have hm := hR.hi
  unfold outS at h
  obtain ⟨h1, h2⟩ := List.append_inj h (by rw [take_flat hs.sh _ hm, take_flat ht.sh _ hm])
  have hr : ∀ {u : St}, StOk p N u → ∀ c ∈ u.cores.take p.length, c.regs.length = 4 := by
    intro u hu c hc
    obtain ⟨i, hi⟩ := List.getElem?_of_mem (List.mem_of_mem_take hc)
    exact (hu.sh.core i c hi).regs
  have h3 := flat_inj (by simp [hs.sh.len, ht.sh.len]) (hr hs) (hr ht) h1
  have hc : s.cores = t.cores := by
    apply List.ext_getElem?
    intro i
    by_cases hi : i < 3
    · obtain ⟨c, ec⟩ : ∃ c, s.cores[i]? = some c := ⟨_, List.getElem?_eq_getElem (by rw [hs.sh.len]; exact hi)⟩
      obtain ⟨d, ed⟩ : ∃ d, t.cores[i]? = some d := ⟨_, List.getElem?_eq_getElem (by rw [ht.sh.len]; exact hi)⟩
      by_cases hp : i < p.length
      · obtain ⟨n1, b1⟩ := end_core hs es hp ec
        obtain ⟨n2, b2⟩ := end_core ht et hp ed
        have hreg : c.regs = d.regs := by
          have := congrArg (·[i]?) h3
          simp only [List.getElem?_map, List.getElem?_take, if_pos hp, ec, ed, Option.map_some, Option.some.injEq] at this
          exact this
        rw [ec, ed]
        obtain ⟨cn, cr, cb⟩ := c
        obtain ⟨dn, dr, db⟩ := d
        simp only at n1 b1 n2 b2 hreg
        subst hreg b1 b2
        rw [n1, n2]
      · rw [hs.rest i (by omega) hi, ht.rest i (by omega) hi]
    · rw [List.getElem?_eq_none (by rw [hs.sh.len]; omega), List.getElem?_eq_none (by rw [ht.sh.len]; omega)]
  obtain ⟨sc, sm⟩ := s
  obtain ⟨tc, tm⟩ := t
  simp only at hc h2
  rw [hc, h2]

/-- An execution can always end. -/
theorem can_end {p : List (List Opn)} {N : Nat} (hR : RightS p (N : Int)) : ∀ n s, phi p s = n → Reach p N s → ∃ t, Reach p N t ∧ stepsS p N t = [] := by
  intro n
  induction n using Nat.strongRecOn with
  | _ n ih =>
    intro s hn hs
    cases h : stepsS p N s with
    | nil => exact ⟨s, hs, h⟩
    | cons t l =>
      have ht : t ∈ stepsS p N s := by rw [h]; simp
      exact ih (phi p t) (by have := phi_step (hs.ok hR) hR ht; omega) t rfl (hs.step ht)

theorem EndsOf.ne {p : List (List Opn)} {N : Nat} {E : List St} (h : EndsOf p N E) (hR : RightS p (N : Int)) : E ≠ [] := by
  obtain ⟨t, h1, h2⟩ := can_end hR _ st0 rfl .start
  intro e
  have := (h.iff t).2 ⟨h1, h2⟩
  rw [e] at this
  simp at this

/-- x is an outcome. -/
def IsOut (p : List (List Opn)) (N : Nat) (x : List Int) : Prop := ∃ s, Reach p N s ∧ stepsS p N s = [] ∧ outS p.length s = x

/-- All outcomes, each once, rising. -/
structure Outs (p : List (List Opn)) (N : Nat) (L : List (List Int)) : Prop where
  rising : L.Pairwise (fun x y => cmpL x y < 0)
  iff : ∀ x, x ∈ L ↔ IsOut p N x

/-- Rising lists with the same elements are one. -/
theorem rising_eq : ∀ {a b : List (List Int)}, a.Pairwise (fun x y => cmpL x y < 0) → b.Pairwise (fun x y => cmpL x y < 0) → (∀ x, x ∈ a ↔ x ∈ b) → a = b
  | [], [], _, _, _ => rfl
  | [], y :: b, _, _, h => by have := (h y).2 (by simp); simp at this
  | x :: a, [], _, _, h => by have := (h x).1 (by simp); simp at this
  | x :: a, y :: b, ha, hb, h => by
    obtain ⟨a1, a2⟩ := List.pairwise_cons.1 ha
    obtain ⟨b1, b2⟩ := List.pairwise_cons.1 hb
    have irr : ∀ z, ¬ cmpL z z < 0 := fun z hz => by rw [cmpL_zero.2 rfl] at hz; omega
    have hxy : x = y := by
      rcases List.mem_cons.1 ((h x).1 (by simp)) with e | hx
      · exact e
      · rcases List.mem_cons.1 ((h y).2 (by simp)) with e | hy
        · exact e.symm
        · exact absurd (cmpL_trans (a1 y hy) (b1 x hx)) (irr x)
    subst hxy
    congr 1
    refine rising_eq a2 b2 fun z => ?_
    constructor
    · intro hz
      rcases List.mem_cons.1 ((h z).1 (by simp [hz])) with rfl | hz'
      · exact absurd (a1 z hz) (irr z)
      · exact hz'
    · intro hz
      rcases List.mem_cons.1 ((h z).2 (by simp [hz])) with rfl | hz'
      · exact absurd (b1 z hz) (irr z)
      · exact hz'

theorem Outs.eq {p : List (List Opn)} {N : Nat} {L M : List (List Int)} (h : Outs p N L) (k : Outs p N M) : L = M :=
  rising_eq h.rising k.rising (fun x => by rw [h.iff, k.iff])

theorem Outs.ne {p : List (List Opn)} {N : Nat} {L : List (List Int)} (h : Outs p N L) (hR : RightS p (N : Int)) : L ≠ [] := by
  obtain ⟨t, h1, h2⟩ := can_end hR _ st0 rfl .start
  intro e
  have := (h.iff _).2 ⟨t, h1, h2, rfl⟩
  rw [e] at this
  simp at this

#print axioms out_inj
#print axioms Outs.eq
end Go.Proofs.Ytgljgpllooehkaa
