/-
  Layer 7 (litmus), the reference: what its Outcomes keeps (lists as pairs, the outcomes of the first states; the walk itself is RLit18).
  Layer 7 (litmus), the reference: Outcomes.
  Conditions: those that each theorem states.
-/
import Derived.Test.YtgljgpllooehkaaRLit13
import Derived.Test.YtgljgpllooehkaaRLit16
namespace Go.Proofs.Ytgljgpllooehkaa
open Go.ChangeShapes Go.WideShapes Go.ChangeAt Go.RowKit

theorem rst0_zero : rSt st0 = List.replicate 46 0 := by decide

theorem RSts.below {w w' : World} {base : Nat} {v : Value} {ts : List St} (h : RSts w base v ts) (hb : Below w.heap.size w w') : RSts w' base v ts :=
  own_grown h (gr_below hb none) (fun _ _ => by simp)

theorem RSts.one {w : World} {base g : Nat} {t : St} (h : Row w g 69 (ints (rSt t))) (hb : base ≤ g) : RSts w base (.slice (some ⟨g, 0, none⟩) 1 1) [t] := by
  have hl : (ints (rSt t)).length = 46 := by rw [ints_len, rSt_len]
  have e : rstsL [t] = rSt t := by simp [rstsL]
  refine ⟨by rw [e, hl]; rfl, .inr ⟨g, 1, (ints (rSt t)).toArray, rfl, hb, h, by simp, by unfold maxLen; omega, by simp [hl], ?_⟩⟩
  rw [e]
  simp
  exact List.take_of_length_le (by omega)

/-- Where put has been, seen from the call's beginning. -/
theorem put_since {base : Nat} {v : Value} {ts : List St} {w0 w w' : World} (hv : RSts w base v ts) (hb : Below w0.heap.size w0 w) (hbase : w0.heap.size ≤ base) (h : ∃ w1, Below w.heap.size w w1 ∧ w1.grownBy w' v.ownBlock) : Below w0.heap.size w0 w' := by
  obtain ⟨w1, h1, h2⟩ := h
  have h3 : Below w0.heap.size w0 w1 := hb.trans (h1.mono hb.size)
  exact h3.grown h2 h3.size (fun k e => Nat.le_trans hbase (own_base hv k e))

/-- Between two cores, while state s, number i, is at work. -/
def MidAt (p : List (List Opn)) (N : Nat) (s : St) (i c : Nat) (w wr : World) (v : Value) : Prop :=
  ∃ L u, u ≤ 2 * c ∧ BfsC p N s i u L ∧ RSts wr w.heap.size v L ∧ Below w.heap.size w wr ∧ ∀ c', c' < c → ∀ t ∈ stepsAt p N s c', t ∈ L

/-- Between two states. -/
def SearchAt (p : List (List Opn)) (N : Nat) (i : Nat) (w wr : World) (v : Value) : Prop := ∃ L, Bfs p N L i ∧ RSts wr w.heap.size v L ∧ Below w.heap.size w wr

theorem drain_step {p : List (List Opn)} {N c : Nat} {s : St} {cd : Core} {l : List Opn} (hc : s.cores[c]? = some cd) (hl : p[c]? = some l) : drainS c s = s ∨ drainS c s ∈ stepsS p N s := by
  cases hb : cd.buf with
  | nil => exact .inl (by simp [drainS, hc, hb])
  | cons q qs => exact .inr (step_drain hc hl (by rw [hb]; simp))

/-- All steps of core c are in a list. -/
theorem core_all {p : List (List Opn)} {N c : Nat} {s : St} {cd : Core} {l : List Opn} {L : List St} (hc : s.cores[c]? = some cd) (hl : p[c]? = some l) (h1 : ∀ o, l[cd.next]? = some o → execS N c o s ∈ L) (h2 : drainS c s ∈ L) : ∀ t ∈ stepsAt p N s c, t ∈ L := by
  intro t ht
  rw [stepsAt_core hc hl] at ht
  rcases List.mem_append.1 ht with ht | ht
  · cases ho : l[cd.next]? with
    | none => rw [ho] at ht; simp at ht
    | some o =>
      rw [ho] at ht
      obtain rfl : t = execS N c o s := by simpa using ht
      exact h1 o ho
  · by_cases hb : cd.buf = []
    · rw [if_pos hb] at ht; simp at ht
    · rw [if_neg hb] at ht
      obtain rfl : t = drainS c s := by simpa using ht
      exact h2

theorem small_st {p : List (List Opn)} {N : Nat} {L : List St} (hR : RightS p (N : Int)) (h : ∀ s ∈ L, Reach p N s) : ∀ s ∈ L, Shape s := fun s hs => ((h s hs).ok hR).sh

theorem most_lt : most ≤ 13900000000 := by unfold most; omega

/-- Lists as pairs of a slice and what it holds; the row of the slices and their own rows have bases of their own. -/
def PL (w : World) (base baseR : Nat) (v : Value) (Z : List (Value × List Int)) : Prop :=
  w.ownsRow base 35 1 v Z.length (Z.map (·.1)) ∧ ∀ z ∈ Z, w.ownsRow baseR 3 1 z.1 z.2.length (ints z.2)

theorem PL.nil_ (w : World) (base baseR : Nat) : PL w base baseR (.slice none 0 0) [] := ⟨⟨rfl, .inl ⟨rfl, rfl⟩⟩, fun z hz => by simp at hz⟩

theorem PL.below {w w' : World} {base baseR : Nat} {v : Value} {Z : List (Value × List Int)} (h : PL w base baseR v Z) (hb : Below w.heap.size w w') : PL w' base baseR v Z :=
  ⟨own_grown h.1 (gr_below hb none) (fun _ _ => by simp), fun z hz => own_grown (h.2 z hz) (gr_below hb none) (fun _ _ => by simp)⟩

/-- A list keeps over an append to another list of lists. -/
theorem PL.kept {w w' : World} {base baseR : Nat} {v : Value} {Z : List (Value × List Int)} {row : Option Nat} (h : PL w base baseR v Z) (hg : w.grownBy w' row) (hne : ∀ k, v.ownBlock = some k → row ≠ some k) (hrow : ∀ k, row = some k → ∃ b n xs u, u.ownBlock = some k ∧ w.ownsRow b 35 1 u n xs) : PL w' base baseR v Z :=
  ⟨own_grown h.1 hg hne, fun z hz => own_grown (h.2 z hz) hg (fun k hk e => by
    obtain ⟨b, n, xs, u, hu, ho⟩ := hrow k e
    exact own_types (h.2 z hz) ho (by decide) k hk hu)⟩

theorem PL.push {w w' : World} {base baseR : Nat} {v v' : Value} {Z : List (Value × List Int)} {z : Value × List Int} (h : PL w base baseR v Z) (hz : w.ownsRow baseR 3 1 z.1 z.2.length (ints z.2)) (hs : w'.ownsRow base 35 1 v' (Z.length + 1) (Z.map (·.1) ++ [z.1])) (hg : w.grownBy w' v.ownBlock) : PL w' base baseR v' (Z ++ [z]) := by
  have keep : ∀ y : Value × List Int, w.ownsRow baseR 3 1 y.1 y.2.length (ints y.2) → w'.ownsRow baseR 3 1 y.1 y.2.length (ints y.2) := fun y hy =>
    own_grown hy hg (fun k hk e => own_types hy h.1 (by decide) k hk e)
  refine ⟨by rw [List.length_append, List.length_singleton, List.map_append]; exact hs, fun y hy => ?_⟩
  rcases List.mem_append.1 hy with hy | hy
  · exact keep y (h.2 y hy)
  · obtain rfl : y = z := by simpa using hy
    exact keep y hz

theorem PL.lists {w : World} {base : Nat} {v : Value} {Z : List (Value × List Int)} (h : PL w base base v Z) : Lists w base v (Z.map (·.1)) (Z.map (·.2)) where
  own := by rw [List.length_map]; exact h.1
  len := by simp
  each i u l hu hl := by
    rw [List.getElem?_map, Option.map_eq_some_iff] at hu hl
    obtain ⟨z, hz, rfl⟩ := hu
    obtain ⟨z', hz', rfl⟩ := hl
    rw [hz] at hz'
    injection hz' with hz'
    subst hz'
    exact h.2 z (List.mem_of_getElem? hz)

/-- The outcomes of the first j states, rising. -/
structure OutAt (p : List (List Opn)) (L : List St) (j : Nat) (O : List (List Int)) : Prop where
  rising : O.Pairwise (fun x y => cmpL x y < 0)
  iff : ∀ x, x ∈ O ↔ ∃ s ∈ L.take j, EndedS p s p.length ∧ outS p.length s = x
  len : O.length ≤ j

theorem OutAt.skip {p : List (List Opn)} {L : List St} {j : Nat} {O : List (List Int)} {s : St} (h : OutAt p L j O) (hs : L[j]? = some s) (hn : ¬ EndedS p s p.length) : OutAt p L (j + 1) O where
  rising := h.rising
  iff x := by
    rw [h.iff, List.take_add_one, hs]
    constructor
    · rintro ⟨t, ht, h1, h2⟩; exact ⟨t, List.mem_append_left _ ht, h1, h2⟩
    · rintro ⟨t, ht, h1, h2⟩
      rcases List.mem_append.1 ht with ht | ht
      · exact ⟨t, ht, h1, h2⟩
      · obtain rfl : t = s := by simpa using ht
        exact absurd h1 hn
  len := by have := h.len; omega

theorem OutAt.there {p : List (List Opn)} {L : List St} {j : Nat} {O : List (List Int)} {s : St} (h : OutAt p L j O) (hs : L[j]? = some s) (hin : outS p.length s ∈ O) : OutAt p L (j + 1) O where
  rising := h.rising
  iff x := by
    rw [List.take_add_one, hs]
    constructor
    · intro hx
      obtain ⟨t, ht, h1, h2⟩ := (h.iff x).1 hx
      exact ⟨t, List.mem_append_left _ ht, h1, h2⟩
    · rintro ⟨t, ht, h1, h2⟩
      rcases List.mem_append.1 ht with ht | ht
      · exact (h.iff x).2 ⟨t, ht, h1, h2⟩
      · obtain rfl : t = s := by simpa using ht
        rw [← h2]; exact hin
  len := by have := h.len; omega

/-- What stands ahead of x, x, and what stands behind it. -/
theorem OutAt.put {p : List (List Opn)} {L : List St} {j : Nat} {O : List (List Int)} {s : St} (h : OutAt p L j O) (hs : L[j]? = some s) (he : EndedS p s p.length) (hnot : outS p.length s ∉ O) :
    OutAt p L (j + 1) (O.filter (fun y => decide (cmpL y (outS p.length s) < 0)) ++ [outS p.length s] ++ O.filter (fun y => decide (cmpL (outS p.length s) y < 0))) where
  rising := by
    have hr := h.rising
    rw [List.pairwise_append, List.pairwise_append]
    refine ⟨⟨hr.filter _, by simp, fun a ha b hb => ?_⟩, hr.filter _, fun a ha b hb => ?_⟩
    · obtain rfl : b = outS p.length s := by simpa using hb
      simpa using (List.mem_filter.1 ha).2
    · have h2 : cmpL (outS p.length s) b < 0 := by simpa using (List.mem_filter.1 hb).2
      rcases List.mem_append.1 ha with ha | ha
      · exact cmpL_trans (by simpa using (List.mem_filter.1 ha).2) h2
      · obtain rfl : a = outS p.length s := by simpa using ha
        exact h2
  iff x := by
    rw [List.take_add_one, hs]
    constructor
    · intro hx
      rcases List.mem_append.1 hx with hx | hx
      · rcases List.mem_append.1 hx with hx | hx
        · obtain ⟨t, ht, h1, h2⟩ := (h.iff x).1 (List.mem_filter.1 hx).1
          exact ⟨t, List.mem_append_left _ ht, h1, h2⟩
        · obtain rfl : x = outS p.length s := by simpa using hx
          exact ⟨s, by simp, he, rfl⟩
      · obtain ⟨t, ht, h1, h2⟩ := (h.iff x).1 (List.mem_filter.1 hx).1
        exact ⟨t, List.mem_append_left _ ht, h1, h2⟩
    · rintro ⟨t, ht, h1, h2⟩
      rcases List.mem_append.1 ht with ht | ht
      · have hx : x ∈ O := (h.iff x).2 ⟨t, ht, h1, h2⟩
        have hne : x ≠ outS p.length s := fun e => hnot (e ▸ hx)
        by_cases h3 : cmpL x (outS p.length s) < 0
        · exact List.mem_append_left _ (List.mem_append_left _ (List.mem_filter.2 ⟨hx, by simpa using h3⟩))
        · refine List.mem_append_right _ (List.mem_filter.2 ⟨hx, ?_⟩)
          have h4 : cmpL x (outS p.length s) ≠ 0 := fun e => hne (cmpL_zero.1 e)
          have h5 := cmpL_neg x (outS p.length s)
          simp only [decide_eq_true_eq]
          omega
      · obtain rfl : t = s := by simpa using ht
        rw [← h2]; simp
  len := by
    have key : ∀ M : List (List Int), (M.filter (fun y => decide (cmpL y (outS p.length s) < 0))).length + (M.filter (fun y => decide (cmpL (outS p.length s) y < 0))).length ≤ M.length := by
      intro M
      induction M with
      | nil => simp
      | cons y M ih =>
        have h5 := cmpL_neg y (outS p.length s)
        by_cases a : cmpL y (outS p.length s) < 0
        · have b : ¬ cmpL (outS p.length s) y < 0 := by omega
          simp [a, b]; omega
        · by_cases b : cmpL (outS p.length s) y < 0
          · simp [a, b]; omega
          · simp [a, b]; omega
    have := key O
    have := h.len
    simp only [List.length_append, List.length_singleton]
    omega

theorem OutAt.outs {p : List (List Opn)} {N : Nat} {L : List St} {O : List (List Int)} (hR : RightS p (N : Int)) (h : OutAt p L L.length O) (hall : ∀ s, s ∈ L ↔ Reach p N s) : Outs p N O where
  rising := h.rising
  iff x := by
    rw [h.iff, List.take_of_length_le (Nat.le_refl _)]
    constructor
    · rintro ⟨s, hs, he, rfl⟩
      have hr := (hall s).1 hs
      have hok := hr.ok hR
      refine ⟨s, hr, steps_none (fun i c hi hc => ?_) (by rw [hok.sh.len]; exact hR.hi), rfl⟩
      obtain ⟨h1, h2⟩ := he i c hi hc
      exact ⟨Nat.le_antisymm (hok.next i c hc) h1, h2⟩
    · rintro ⟨s, hr, he, rfl⟩
      refine ⟨s, (hall s).2 hr, fun i c hi hc => ?_, rfl⟩
      obtain ⟨h1, h2⟩ := end_core (hr.ok hR) he hi hc
      exact ⟨Nat.le_of_eq h1.symm, h2⟩

/-- The round's two lists: what stands ahead of x, and what stands behind it, among the first k. -/
def InsAt (w w5 wr : World) (Z : List (Value × List Int)) (k : Nat) (x : List Int) (av bv : Value) : Prop :=
  PL wr w5.heap.size w.heap.size av ((Z.take k).filter fun z => decide (cmpL z.2 x < 0)) ∧ PL wr w5.heap.size w.heap.size bv ((Z.take k).filter fun z => decide (cmpL x z.2 < 0)) ∧ (∀ b, av.ownBlock = some b → bv.ownBlock ≠ some b) ∧ Below w5.heap.size w5 wr

theorem own_lt {w : World} {base n size : Nat} {e : TypeId} {v : Value} {xs : List Value} (h : w.ownsRow base e size v n xs) : ∀ b, v.ownBlock = some b → b < w.heap.size := by
  intro b hb
  rcases h.2 with ⟨rfl, _⟩ | ⟨g, cap, cur, rfl, _, hg, _⟩
  · cases hb
  · injection hb with hb; subst hb; exact (Array.getElem?_eq_some_iff.1 hg).1

theorem filter_more {Z : List (Value × List Int)} {k : Nat} {z : Value × List Int} (hz : Z[k]? = some z) (f : Value × List Int → Bool) : (Z.take (k + 1)).filter f = (Z.take k).filter f ++ (if f z then [z] else []) := by
  rw [List.take_add_one, hz, List.filter_append]
  cases h : f z <;> simp [h]

theorem InsAt.quiet {w w5 wr W : World} {Z : List (Value × List Int)} {k : Nat} {x : List Int} {av bv : Value} (h : InsAt w w5 wr Z k x av bv) (hb : Below wr.heap.size wr W) : InsAt w w5 W Z k x av bv :=
  ⟨h.1.below hb, h.2.1.below hb, h.2.2.1, h.2.2.2.trans (hb.mono h.2.2.2.size)⟩

/-- One more ahead. -/
theorem InsAt.ahead {w w5 wr y : World} {Z : List (Value × List Int)} {k : Nat} {x : List Int} {av bv av' : Value} {z : Value × List Int} (h : InsAt w w5 wr Z k x av bv) (hz : Z[k]? = some z) (hlt : cmpL z.2 x < 0) (hrow : wr.ownsRow w.heap.size 3 1 z.1 z.2.length (ints z.2))
    (hs : y.ownsRow w5.heap.size 35 1 av' (((Z.take k).filter fun z => decide (cmpL z.2 x < 0)).length + 1) (((Z.take k).filter fun z => decide (cmpL z.2 x < 0)).map (·.1) ++ [z.1])) (hg : wr.grownBy y av.ownBlock) (hl : av'.ownBlock = av.ownBlock ∨ av'.ownBlock = some wr.heap.size) : InsAt w w5 y Z (k + 1) x av' bv := by
  have hno : ¬ cmpL x z.2 < 0 := by have := cmpL_neg x z.2; omega
  refine ⟨?_, ?_, fun b hb e => ?_, h.2.2.2.grown hg h.2.2.2.size (own_base h.1.1)⟩
  · rw [filter_more hz, if_pos (by simpa using hlt)]
    exact h.1.push hrow hs hg
  · rw [filter_more hz, if_neg (by simpa using hno), List.append_nil]
    exact h.2.1.kept hg (fun b hb e => h.2.2.1 b e hb) (fun b hb => ⟨_, _, _, av, hb, h.1.1⟩)
  · rcases hl with hl | hl
    · exact h.2.2.1 b (hl ▸ hb) e
    · rw [hl] at hb
      injection hb with hb
      have := own_lt h.2.1.1 b e
      omega

/-- One more behind. -/
theorem InsAt.behind {w w5 wr y : World} {Z : List (Value × List Int)} {k : Nat} {x : List Int} {av bv bv' : Value} {z : Value × List Int} (h : InsAt w w5 wr Z k x av bv) (hz : Z[k]? = some z) (hlt : cmpL x z.2 < 0) (hrow : wr.ownsRow w.heap.size 3 1 z.1 z.2.length (ints z.2))
    (hs : y.ownsRow w5.heap.size 35 1 bv' (((Z.take k).filter fun z => decide (cmpL x z.2 < 0)).length + 1) (((Z.take k).filter fun z => decide (cmpL x z.2 < 0)).map (·.1) ++ [z.1])) (hg : wr.grownBy y bv.ownBlock) (hl : bv'.ownBlock = bv.ownBlock ∨ bv'.ownBlock = some wr.heap.size) : InsAt w w5 y Z (k + 1) x av bv' := by
  have hno : ¬ cmpL z.2 x < 0 := by have := cmpL_neg x z.2; omega
  refine ⟨?_, ?_, fun b hb e => ?_, h.2.2.2.grown hg h.2.2.2.size (own_base h.2.1.1)⟩
  · rw [filter_more hz, if_neg (by simpa using hno), List.append_nil]
    exact h.1.kept hg (fun b hb e => h.2.2.1 b hb e) (fun b hb => ⟨_, _, _, bv, hb, h.2.1.1⟩)
  · rw [filter_more hz, if_pos (by simpa using hlt)]
    exact h.2.1.push hrow hs hg
  · rcases hl with hl | hl
    · exact h.2.2.1 b hb (hl ▸ e)
    · rw [hl] at e
      injection e with e
      have := own_lt h.1.1 b hb
      omega

/-- An equal one. -/
theorem InsAt.same {w w5 wr : World} {Z : List (Value × List Int)} {k : Nat} {x : List Int} {av bv : Value} {z : Value × List Int} (h : InsAt w w5 wr Z k x av bv) (hz : Z[k]? = some z) (h1 : ¬ cmpL z.2 x < 0) (h2 : ¬ cmpL x z.2 < 0) : InsAt w w5 wr Z (k + 1) x av bv := by
  refine ⟨?_, ?_, h.2.2⟩
  · rw [filter_more hz, if_neg (by simpa using h1), List.append_nil]; exact h.1
  · rw [filter_more hz, if_neg (by simpa using h2), List.append_nil]; exact h.2.1

theorem mem_more {Z : List (Value × List Int)} {k : Nat} {z : Value × List Int} {x : List Int} (hz : Z[k]? = some z) (hne : cmpL z.2 x ≠ 0) : decide (x ∈ (Z.take (k + 1)).map (·.2)) = decide (x ∈ (Z.take k).map (·.2)) := by
  apply decide_eq_decide.2
  rw [List.take_add_one, hz, List.map_append]
  simp only [List.mem_append]
  constructor
  · rintro (h | h)
    · exact h
    · exfalso
      obtain rfl : x = z.2 := by simpa using h
      exact hne (cmpL_zero.2 rfl)
  · exact .inl

theorem mem_here {Z : List (Value × List Int)} {k : Nat} {z : Value × List Int} {x : List Int} (hz : Z[k]? = some z) (he : cmpL z.2 x = 0) : decide (x ∈ (Z.take (k + 1)).map (·.2)) = true := by
  rw [decide_eq_true_eq, List.take_add_one, hz, List.map_append]
  have := cmpL_zero.1 he
  simp [this]

theorem ins_map (Z : List (Value × List Int)) (x : List Int) : (Z.filter (fun z => decide (cmpL z.2 x < 0))).map (·.2) = (Z.map (·.2)).filter (fun y => decide (cmpL y x < 0)) := by
  rw [List.filter_map]
  rfl

theorem ins_map2 (Z : List (Value × List Int)) (x : List Int) : (Z.filter (fun z => decide (cmpL x z.2 < 0))).map (·.2) = (Z.map (·.2)).filter (fun y => decide (cmpL x y < 0)) := by
  rw [List.filter_map]
  rfl

theorem PL.rebase {w : World} {base base' baseR : Nat} {v : Value} {Z : List (Value × List Int)} (h : PL w base baseR v Z) (hb : base' ≤ base) : PL w base' baseR v Z := ⟨own_rebase h.1 hb, h.2⟩

theorem PL.ones {w : World} {base baseR : Nat} {v : Value} {Z : List (Value × List Int)} (h : PL w base baseR v Z) : ∀ u ∈ Z.map (·.1), u.oneCell' = true := by
  intro u hu
  obtain ⟨z, hz, rfl⟩ := List.mem_map.1 hu
  exact own_one (h.2 z hz)

/-- A list of lists behind another. -/
theorem PL.join {w w' : World} {base base2 baseR : Nat} {v u v' : Value} {Z Y : List (Value × List Int)} (h : PL w base baseR v Z) (k : PL w base2 baseR u Y) (hs : w'.ownsRow base 35 1 v' (Z.length + Y.length) (Z.map (·.1) ++ Y.map (·.1))) (hg : w.grownBy w' v.ownBlock) : PL w' base baseR v' (Z ++ Y) := by
  have keep : ∀ y : Value × List Int, w.ownsRow baseR 3 1 y.1 y.2.length (ints y.2) → w'.ownsRow baseR 3 1 y.1 y.2.length (ints y.2) := fun y hy =>
    own_grown hy hg (fun k hk e => own_types hy h.1 (by decide) k hk e)
  refine ⟨by rw [List.length_append, List.map_append]; exact hs, fun y hy => ?_⟩
  rcases List.mem_append.1 hy with hy | hy
  · exact keep y (h.2 y hy)
  · exact keep y (k.2 y hy)

/-- The list behind keeps over an append to the list ahead. -/
theorem ins_keep {w w' : World} {base baseR : Nat} {v u : Value} {Z Y : List (Value × List Int)} (h : PL w base baseR v Z) (k : PL w base baseR u Y) (hne : ∀ b, v.ownBlock = some b → u.ownBlock ≠ some b) (hg : w.grownBy w' v.ownBlock) : PL w' base baseR u Y :=
  k.kept hg (fun b hb e => hne b e hb) (fun _ hb => ⟨_, _, _, v, hb, h.1⟩)

set_option maxRecDepth 100000 in
set_option maxHeartbeats 16000000 in
theorem routcomes_any (N : Nat) (v : Value) (p : List (List Opn)) (w : World) (hp : Prg w v p) (hR : RightS p (N : Int)) :
    Calls Try.prog 16 #[v, .int .i64 (N : Int)] w fun e w' => ∃ ov vs L, e = .returned ov ∧ Lists w' w.heap.size ov vs L ∧ Outs p N L ∧ Below w.heap.size w w' ∧ L.length ≤ most := by
  have HP := Lib.hid hp
  have HR := Lib.hid hR
  have hm1 := hR.lo
  have hm3 := hR.hi
  have hN4 : N ≤ 4 := by have := hR.b4; omega
  obtain ⟨A, cc, rfl, hA⟩ := hp
  clear hA hR
  obtain ⟨i0, hi0, hz0, hz1, hz2⟩ := info_parts list_info
  obtain ⟨m, hme⟩ : ∃ m, p.length = m := ⟨_, rfl⟩
  rw [hme] at hm1 hm3 HP ⊢
  have HM := Lib.hid hme
  have SZ : Hid (∀ t, (Try.prog.info? 69).map (·.size) = some (ints (rSt t)).length) := Lib.hid (fun t => (rst_size).trans (congrArg some (rL_ints_len _).symm))
  clear hme
  go_enter Try.func16, Try.ntmps16
  go_wp2_with (first
    | (refine one_walk rfl 70 69 (.tmp 16) rfl (ints (List.replicate 46 0)) rfl Try.underlying70 46 rst_one (by simp [ints]) (by omega) (by omega) ?_; intro w1 r1 b1 z1; have R1 := Lib.hid r1; have B1 := Lib.hid b1; clear r1 b1 z1)
    | fail)
  have S1 : Hid (SearchAt p N 0 w w1 (.slice (some ⟨w.heap.size, 0, none⟩) 1 1)) := Lib.hid ⟨[st0], Bfs.init HR.out, RSts.one (by rw [rst0_zero]; exact R1.out) (Nat.le_refl _), B1.out⟩
  clear R1 B1
  try go_simp
  go_loopw [5, 6] (fun lv iv wr => ∃ i : Nat, i ≤ 13900000000 ∧ iv = .int .i64 (i : Int) ∧ Hid (SearchAt p N i w wr lv)) (fun _ iv _ => 14000000000 - (intOf iv).toNat)
  case atStart => exact ⟨0, by omega, rfl, S1⟩
  case round =>
    clear S1
    obtain ⟨i, hi, rfl, HS⟩ := hrel
    obtain ⟨L, hbfs, hrs, hbw⟩ := HS.out
    obtain ⟨lA, lc, e5⟩ := hrs.shape_
    subst e5
    obtain ⟨n, hn⟩ : ∃ n, L.length = n := ⟨_, rfl⟩
    have hnm : n ≤ 13900000000 := by rw [← hn]; exact Nat.le_trans hbfs.len most_lt
    have hin : i ≤ n := by rw [← hn]; exact hbfs.le
    have HBFS := Lib.hid hbfs
    have HRS := Lib.hid hrs
    have HBW := Lib.hid hbw
    have HN := Lib.hid hn
    rw [hn]
    clear hbfs hrs hbw hn HS
    by_cases hlt : i < n
    · obtain ⟨s, hs⟩ : ∃ s, L[i]? = some s := ⟨_, List.getElem?_eq_getElem (by rw [HN.out]; exact hlt)⟩
      have M0 : Hid (MidAt p N s i 0 w wr (.slice lA n lc)) := Lib.hid ⟨L, 0, by omega, HBFS.out.open_ hs HR.out, by rw [← HN.out]; exact HRS.out, HBW.out, fun c' hc => by omega⟩
      have HST := Lib.hid ((HBFS.out.reach s (List.mem_of_getElem? hs)).ok HR.out)
      have i0 : (0 : Int) ≤ (i : Int) := by omega
      clear hs
      go_wp2
      go_loopw [5, 7] (fun lv cv wr => ∃ c : Nat, c ≤ m ∧ cv = .int .i64 (c : Int) ∧ Hid (MidAt p N s i c w wr lv)) (fun _ cv _ => m - (intOf cv).toNat)
      case atStart => exact ⟨0, by omega, rfl, M0⟩
      case round =>
        clear M0 HBFS HRS HBW HN
        obtain ⟨c, hc, rfl, HMID⟩ := hrel
        by_cases hcm : c < m
        · obtain ⟨L1, u, hu, hb1, hr1, hw1, hall1⟩ := HMID.out
          obtain ⟨g, lc1, e5, hgl, hcell⟩ := hr1.at_ hb1.at_
          subst e5
          obtain ⟨n1, hn1⟩ : ∃ n, L1.length = n := ⟨_, rfl⟩
          have hn1m : n1 ≤ 13900000000 := by rw [← hn1]; exact Nat.le_trans hb1.len most_lt
          have hin1 : i < n1 := by rw [← hn1]; exact (List.getElem?_eq_some_iff.1 hb1.at_).1
          obtain ⟨cd, hcd⟩ : ∃ cd, s.cores[c]? = some cd := ⟨_, List.getElem?_eq_getElem (by rw [HST.out.sh.len]; omega)⟩
          obtain ⟨l, hl⟩ : ∃ l, p[c]? = some l := ⟨_, List.getElem?_eq_getElem (by rw [HM.out]; exact hcm)⟩
          have hgd : p.getD c [] = l := by rw [List.getD_eq_getElem?_getD, hl]; rfl
          obtain ⟨ad, cv, A', c', hv', q1, hrec⟩ := (HP.out.below hw1).at_ hl
          rw [HM.out] at hv'
          injection hv' with eA _ eC
          subst eA eC
          have c3 : c < 3 := by omega
          have hlm := HR.out.each l (List.mem_of_getElem? hl)
          have hok := HST.out.sh.core c cd hcd
          have cpos : wr.cell? ⟨g, i * 46 + c, none⟩ = some (.int .i64 (cd.next : Int)) := by
            have := hcell c _ (ints_some (rL_at (rcell s) (k := c) (by omega)))
            rw [Addr.add_lit, rcell_pos s c3, coreOf_some hcd] at this
            exact this
          rw [hn1] at hr1 ⊢
          have HB1 := Lib.hid hb1
          have HR1 := Lib.hid hr1
          have HW1 := Lib.hid hw1
          have HA1 := Lib.hid hall1
          have HCD := Lib.hid hcd
          have HLL := Lib.hid hl
          have HLM := Lib.hid hlm
          have HN1 := Lib.hid hn1
          have hnext4 : cd.next ≤ 5 := hok.next
          have HROOM := Lib.hid (HST.out.room c cd hcd)
          have HSH1 := Lib.hid (small_st HR.out hb1.reach)
          have HDR := Lib.hid (drain_step (N := N) hcd hl)
          obtain ⟨nl, hnl⟩ : ∃ n, l.length = n := ⟨_, rfl⟩
          obtain ⟨nx, hnx⟩ : ∃ n, cd.next = n := ⟨_, rfl⟩
          rw [hnl] at q1
          rw [hnx] at cpos hnext4
          have HNL := Lib.hid hnl
          have HNX := Lib.hid hnx
          have j0 : (0 : Int) ≤ (c : Int) := by omega
          have j3 : (c : Int) < 3 := by omega
          have jm : (c : Int) < (m : Int) := by omega
          have ii : (i : Int) < (n1 : Int) := by omega
          have HCELL := Lib.hid hcell
          clear hb1 hr1 hw1 hall1 hcd hl hlm hn1 hok hnl hnx hcell hrec HMID hgd
          by_cases h1 : nx < nl
          · have t1 : decide (nx < nl) = true := decide_eq_true h1
            obtain ⟨o, ho⟩ : ∃ o, l[cd.next]? = some o := ⟨_, List.getElem?_eq_getElem (by rw [HNL.out, HNX.out]; exact h1)⟩
            have HO := Lib.hid ho
            have HOK := Lib.hid (HLM.out.2 o (List.mem_of_getElem? ho))
            have hn4 : cd.next ≤ 4 := by have h5 := HLM.out.1; rw [HNL.out] at h5; rw [HNX.out]; omega
            have HN4 := Lib.hid hn4
            clear ho hn4 h1
            go_wp2
            go_quiet (fail)
            have CQ := Lib.hid (show ∀ j x, (ints (rSt s))[j]? = some x → (wr.drewN nq).cell? ((⟨g, i * 46, none⟩ : Addr).add j) = some x from HCELL.out)
            have RQ := Lib.hid (show RSts (wr.drewN nq) w.heap.size (.slice (some ⟨g, 0, none⟩) n1 lc1) L1 from HR1.out)
            have WQ := Lib.hid (below_dn HW1.out nq)
            have PQ := Lib.hid (HP.out.below WQ.out)
            clear cpos q1 t1
            generalize wr.drewN nq = wq at CQ RQ WQ PQ ⊢
            have STEP := Lib.hid (rstep_any N c s _ p cd l o wq HST.out.sh c3 HCD.out PQ.out HLL.out HO.out HOK.out HROOM.out hN4 HN4.out)
            go_wp2_with (first
              | (with_reducible refine load_walk rfl 69 (.tmp 48) rfl ⟨g, i * 46, none⟩ rfl (ints (rSt s)) rst_struct (SZ.out s) CQ.out ?_)
              | fail)
            refine STEP.out.mono ?_
            rintro e w5 ⟨rfl, hb5⟩
            have R5 := Lib.hid (RQ.out.below hb5)
            have W5 := Lib.hid (WQ.out.trans (hb5.mono WQ.out.size))
            have SHX := Lib.hid (HST.out.sh.exec HCD.out hN4 HROOM.out HN4.out HOK.out)
            have PUT := Lib.hid (rput_any w.heap.size (.slice (some ⟨g, 0, none⟩) n1 lc1) L1 (execS N c o s) w5 R5.out HSH1.out SHX.out (by rw [HN1.out]; omega) W5.out.size)
            unfold rSt at PUT
            clear hb5 STEP CQ
            go_wp2_with fail
            refine PUT.out.mono ?_
            rintro e w6 ⟨v2, rfl, hr6, hw6⟩
            have W6 := Lib.hid (put_since R5.out W5.out (Nat.le_refl _) hw6)
            have HB2 := Lib.hid (HB1.out.put (t := execS N c o s) (by omega) HR.out (.inr (step_exec HCD.out HLL.out HO.out)))
            obtain ⟨L2, hL2⟩ : ∃ L2, (if execS N c o s ∈ L1 then L1 else L1 ++ [execS N c o s]) = L2 := ⟨_, rfl⟩
            have hsub : ∀ x ∈ L1, x ∈ L2 := by rw [← hL2]; exact put_sub
            have hex : execS N c o s ∈ L2 := by rw [← hL2]; exact put_mem
            rw [hL2] at hr6 HB2
            obtain ⟨g2, lc2, e6, hgl2, hcell2⟩ := hr6.at_ HB2.out.at_
            subst e6
            obtain ⟨n2, hn2⟩ : ∃ n, L2.length = n := ⟨_, rfl⟩
            have hn2m : n2 ≤ 13900000000 := by rw [← hn2]; exact Nat.le_trans HB2.out.len most_lt
            have hin2 : i < n2 := by rw [← hn2]; exact (List.getElem?_eq_some_iff.1 HB2.out.at_).1
            rw [hn2] at hr6 ⊢
            have R6 := Lib.hid hr6
            have C6 := Lib.hid hcell2
            have HN2 := Lib.hid hn2
            have HSUB := Lib.hid hsub
            have HEX := Lib.hid hex
            have HSH2 := Lib.hid (small_st HR.out HB2.out.reach)
            have ii2 : (i : Int) < (n2 : Int) := by omega
            clear hr6 hcell2 hn2 hsub hex hL2 hw6 PUT
            have DRN := Lib.hid (rdrain_any c s w6 HST.out.sh c3)
            go_wp2_with (first
              | (with_reducible refine load_walk rfl 69 (.tmp 56) rfl ⟨g2, i * 46, none⟩ rfl (ints (rSt s)) rst_struct (SZ.out s) C6.out ?_)
              | fail)
            refine DRN.out.mono ?_
            rintro e w7 ⟨rfl, hb7⟩
            have R7 := Lib.hid (R6.out.below hb7)
            have W7 := Lib.hid (W6.out.trans (hb7.mono W6.out.size))
            have PUT := Lib.hid (rput_any w.heap.size (.slice (some ⟨g2, 0, none⟩) n2 lc2) L2 (drainS c s) w7 R7.out HSH2.out (HST.out.sh.drain c) (by rw [HN2.out]; omega) W7.out.size)
            unfold rSt at PUT
            clear hb7 DRN C6
            go_wp2_with fail
            refine PUT.out.mono ?_
            rintro e w8 ⟨v3, rfl, hr8, hw8⟩
            have W8 := Lib.hid (put_since R7.out W7.out (Nat.le_refl _) hw8)
            have HB3 := Lib.hid (HB2.out.put (t := drainS c s) (by omega) HR.out HDR.out)
            have R8 := Lib.hid hr8
            clear hr8 hw8 PUT
            go_wp2
            go_roundw
            case rel => exact ⟨c + 1, by omega, by go_num, Lib.hid ⟨_, u + 1 + 1, by omega, HB3.out, R8.out, W8.out, fun c' hc' => by
              by_cases e : c' = c
              · subst e
                exact core_all HCD.out HLL.out (fun o' ho' => by
                  rw [HO.out] at ho'
                  injection ho' with ho'
                  subst ho'
                  exact put_sub _ HEX.out) put_mem
              · exact fun t ht => put_sub _ (HSUB.out t (HA1.out c' (by omega) t ht))⟩⟩
            case measure => simp [intOf]; omega
          · have t1 : decide (nx < nl) = false := decide_eq_false h1
            have hnone : l[cd.next]? = none := List.getElem?_eq_none (by rw [HNL.out, HNX.out]; omega)
            have HNONE := Lib.hid hnone
            clear hnone h1
            go_wp2
            go_quiet (fail)
            have CQ := Lib.hid (show ∀ j x, (ints (rSt s))[j]? = some x → (wr.drewN nq).cell? ((⟨g, i * 46, none⟩ : Addr).add j) = some x from HCELL.out)
            have RQ := Lib.hid (show RSts (wr.drewN nq) w.heap.size (.slice (some ⟨g, 0, none⟩) n1 lc1) L1 from HR1.out)
            have WQ := Lib.hid (below_dn HW1.out nq)
            clear cpos q1 t1
            generalize wr.drewN nq = wq at CQ RQ WQ ⊢
            have DRN := Lib.hid (rdrain_any c s wq HST.out.sh c3)
            go_wp2_with (first
              | (with_reducible refine load_walk rfl 69 (.tmp 56) rfl ⟨g, i * 46, none⟩ rfl (ints (rSt s)) rst_struct (SZ.out s) CQ.out ?_)
              | fail)
            refine DRN.out.mono ?_
            rintro e w7 ⟨rfl, hb7⟩
            have R7 := Lib.hid (RQ.out.below hb7)
            have W7 := Lib.hid (WQ.out.trans (hb7.mono WQ.out.size))
            have PUT := Lib.hid (rput_any w.heap.size (.slice (some ⟨g, 0, none⟩) n1 lc1) L1 (drainS c s) w7 R7.out HSH1.out (HST.out.sh.drain c) (by rw [HN1.out]; omega) W7.out.size)
            unfold rSt at PUT
            clear hb7 DRN CQ
            go_wp2_with fail
            refine PUT.out.mono ?_
            rintro e w8 ⟨v3, rfl, hr8, hw8⟩
            have W8 := Lib.hid (put_since R7.out W7.out (Nat.le_refl _) hw8)
            have HB3 := Lib.hid (HB1.out.put (t := drainS c s) (by omega) HR.out HDR.out)
            have R8 := Lib.hid hr8
            clear hr8 hw8 PUT
            go_wp2
            go_roundw
            case rel => exact ⟨c + 1, by omega, by go_num, Lib.hid ⟨_, u + 1, by omega, HB3.out, R8.out, W8.out, fun c' hc' => by
              by_cases e : c' = c
              · subst e
                exact core_all HCD.out HLL.out (fun o' ho' => by rw [HNONE.out] at ho'; cases ho') put_mem
              · exact fun t ht => put_sub _ (HA1.out c' (by omega) t ht)⟩⟩
            case measure => simp [intOf]; omega
        · obtain rfl : c = m := by omega
          have hnext : SearchAt p N (i + 1) w wr u5 := by
            obtain ⟨L2, u, hu, hb2, hr2, hw2, hall⟩ := HMID.out
            refine ⟨L2, hb2.close (fun t ht => ?_), hr2, hw2⟩
            obtain ⟨c', hc', hm'⟩ := List.mem_flatMap.1 ht
            exact hall c' (by have := List.mem_range.1 hc'; rw [HM.out] at this; exact this) t hm'
          have HNX := Lib.hid hnext
          clear hnext
          go_wp2
          go_roundw
          case rel => exact ⟨i + 1, by omega, by go_num, HNX⟩
          case measure => simp [intOf]; omega
    · obtain rfl : i = n := by omega
      have hall : ∀ s, s ∈ L ↔ Reach p N s := Bfs.all (by rw [HN.out]; exact HBFS.out)
      have HALL := Lib.hid hall
      have HSHL := Lib.hid (small_st HR.out HBFS.out.reach)
      have HLM := Lib.hid HBFS.out.len
      rw [HN.out] at HRS
      clear hall HBFS hlt hin
      go_wp2
      go_loopw [8, 9] (fun ov jv wr => ∃ j : Nat, j ≤ i ∧ jv = .int .i64 (j : Int) ∧ Hid (∃ Z, PL wr w.heap.size w.heap.size ov Z ∧ OutAt p L j (Z.map (·.2)) ∧ RSts wr w.heap.size (.slice lA i lc) L ∧ Below w.heap.size w wr)) (fun _ jv _ => i - (intOf jv).toNat)
      case atStart => exact ⟨0, Nat.zero_le _, rfl, Lib.hid ⟨[], PL.nil_ _ _ _, ⟨by simp, fun x => by simp, by simp⟩, HRS.out, HBW.out⟩⟩
      case round =>
        clear HRS HBW
        obtain ⟨j, hj, rfl, HZ⟩ := hrel
        obtain ⟨Z, hpl, hoa, hrs, hbw⟩ := HZ.out
        have HPL := Lib.hid hpl
        have HOA := Lib.hid hoa
        have HRS := Lib.hid hrs
        have HBW := Lib.hid hbw
        have hzl : Z.length ≤ j := by have := hoa.len; rwa [List.length_map] at this
        clear hpl hoa hbw HZ
        by_cases hlt : j < i
        · obtain ⟨s, hs⟩ : ∃ s, L[j]? = some s := ⟨_, List.getElem?_eq_getElem (by rw [HN.out]; exact hlt)⟩
          obtain ⟨g, lc1, e5, hgl, hcell⟩ := RSts.at_ hrs hs
          injection e5 with e51 e52 e53
          subst e51
          have HCELL := Lib.hid hcell
          have HSJ := Lib.hid hs
          have HSHS := Lib.hid (HSHL.out s (List.mem_of_getElem? hs))
          have OC := Lib.hid (routcome_any (.slice A m cc) p s wr (HP.out.below HBW.out) (by rw [HM.out]; exact hm3) HSHS.out)
          have j0 : (0 : Int) ≤ (j : Int) := by omega
          have ji : (j : Int) < (i : Int) := by omega
          clear hs hcell hrs e52 e53
          go_wp2_with (first
            | (with_reducible refine load_walk rfl 69 (.tmp 71) rfl ⟨g, j * 46, none⟩ rfl (ints (rSt s)) rst_struct (SZ.out s) HCELL.out ?_)
            | fail)
          refine OC.out.mono ?_
          rintro e w5 ⟨⟨xv, rfl, hend, hown⟩ | ⟨rfl, hend⟩, hb5⟩
          · obtain ⟨x, hx⟩ : ∃ x, outS p.length s = x := ⟨_, rfl⟩
            have hxl : x.length = m * 4 + 4 := by rw [← hx, HM.out]; exact out_len HSHS.out hm3
            rw [hx] at hown
            have HX := Lib.hid hx
            have HXL := Lib.hid hxl
            have HEND := Lib.hid hend
            obtain ⟨xA, xc, exv⟩ := own_shape hown
            subst exv
            have XR := Lib.hid (own_rebase hown HBW.out.size)
            have HPL5 := Lib.hid (HPL.out.below hb5)
            have HRS5 := Lib.hid (HRS.out.below hb5)
            have HBW5 := Lib.hid (below_on HBW.out hb5)
            have hzx : ∀ z ∈ Z, z.2.length = x.length := by
              intro z hz
              obtain ⟨t, ht, _, h2⟩ := (HOA.out.iff z.2).1 (List.mem_map.2 ⟨z, hz, rfl⟩)
              rw [← h2, hxl, HM.out]
              exact out_len (HSHL.out t (List.mem_of_mem_take ht)) hm3
            have HZX := Lib.hid hzx
            obtain ⟨oA, oc, e8⟩ := own_shape HPL5.out.1
            subst e8
            obtain ⟨o, ho⟩ : ∃ n, Z.length = n := ⟨_, rfl⟩
            have hom : o ≤ 13900000000 := by omega
            rw [ho]
            have HO := Lib.hid ho
            have xle : x.length ≤ 65536 := by omega
            have HXLE := Lib.hid xle
            rw [hxl]
            clear hx hend hown hb5 hzx ho hxl OC HCELL xle
            have I0 : Hid (InsAt w w5 w5 Z 0 x (.slice none 0 0) (.slice none 0 0)) := Lib.hid ⟨PL.nil_ _ _ _, PL.nil_ _ _ _, (fun b hb => by cases hb), Below.refl _ _⟩
            have T0 : Hid (decide (x ∈ (Z.take 0).map (·.2)) = false) := Lib.hid (by simp)
            go_wp2
            go_loopw [12, 13, 14, 15] (fun av bv tv kv wr => ∃ (k : Nat) (tb : Bool), k ≤ o ∧ kv = .int .i64 (k : Int) ∧ tv = .bool tb ∧ Hid (decide (x ∈ (Z.take k).map (·.2)) = tb) ∧ Hid (InsAt w w5 wr Z k x av bv)) (fun _ _ _ kv _ => o - (intOf kv).toNat)
            case atStart => exact ⟨0, false, Nat.zero_le _, rfl, rfl, T0, I0⟩
            case round =>
              clear I0 T0
              obtain ⟨k, tb, hk, rfl, rfl, HTB, HI⟩ := hrel
              by_cases hko : k < o
              · obtain ⟨⟨zv, zl⟩, hz⟩ : ∃ z, Z[k]? = some z := ⟨_, List.getElem?_eq_getElem (by rw [HO.out]; exact hko)⟩
                have hmz := List.mem_of_getElem? hz
                have HZ := Lib.hid hz
                have hk0 : 0 < Z.length := by rw [HO.out]; omega
                have zlen := (show zl.length = x.length from HZX.out _ hmz)
                have ZL := Lib.hid zlen
                have hwr := HI.out.2.2.2
                have hwr' : Below w5.heap.size w5 wr := hwr
                have hpr := HPL5.out.below hwr'
                obtain ⟨g3, c3, e9, hg3, hc3⟩ := own_open hpr.1 hk0
                injection e9 with e91 e92 e93
                subst e91 e93
                clear e92
                have hcz : wr.cell? ⟨g3, k, none⟩ = some zv := hc3 k zv (by rw [List.getElem?_map, hz]; rfl)
                have ZR := Lib.hid (show wr.ownsRow w.heap.size 3 1 zv zl.length (ints zl) from hpr.2 _ hmz)
                obtain ⟨zA, zc, ez⟩ := own_shape ZR.out
                subst ez
                have XW := Lib.hid (own_grown XR.out (gr_below hwr' none) (fun _ _ => by simp))
                have LS := Lib.hid (rless_any _ _ (.slice zA zl.length zc) (.slice xA x.length xc) zl x wr (Lies.of_own ZR.out) (Lies.of_own XW.out) zlen (by rw [zlen]; exact HXLE.out))
                have LX := Lib.hid (own_one ZR.out)
                have CZ := Lib.hid hc3
                have hg3' : g3 < wr.heap.size := hg3
                have k0 : (0 : Int) ≤ (k : Int) := by omega
                have ko : (k : Int) < (o : Int) := by omega
                clear hmz hk0 hpr hwr hwr' hz
                clear zlen
                rw [HXL.out] at LS XW
                go_wp2_with fail
                refine LS.out.mono ?_
                rintro e wq ⟨rfl, m1, rfl⟩
                have bq : Below wr.heap.size wr (wr.drewN m1) := below_dn (Below.refl _ _) m1
                have IQ := Lib.hid (HI.out.quiet bq)
                have ZQ := Lib.hid (own_grown ZR.out (gr_below bq none) (fun _ _ => by simp))
                have XQ := Lib.hid (own_grown XW.out (gr_below bq none) (fun _ _ => by simp))
                have CQ : (wr.drewN m1).cell? ⟨g3, k, none⟩ = some (.slice zA zl.length zc) := hcz
                clear bq LS hcz CZ hc3
                generalize wr.drewN m1 = wq at IQ ZQ XQ CQ ⊢
                by_cases h1 : cmpL zl x < 0
                · have t1 : decide (cmpL zl x < 0) = true := decide_eq_true h1
                  have H1 := Lib.hid h1
                  clear h1
                  have ba := below_al wq (.cells #[.slice zA zl.length zc] 35)
                  have IB := Lib.hid (IQ.out.quiet ba)
                  have LF := Lib.hid (Lies.fresh wq (· = wq.heap.size) 35 [.slice zA zl.length zc] wq.heap.size rfl rfl 1)
                  have ON : Hid (∀ u ∈ [Value.slice zA zl.length zc], u.oneCell' = true) := Lib.hid (by simp [Value.oneCell'])
                  have BB := Lib.hid (Nat.le_trans IQ.out.2.2.2.size ba.size)
                  obtain ⟨na, hna⟩ : ∃ n, ((Z.take k).filter fun z => decide (cmpL z.2 x < 0)).length = n := ⟨_, rfl⟩
                  have hnam : na ≤ 13900000000 := by
                    rw [← hna]
                    exact Nat.le_trans (List.length_filter_le _ _) (by rw [List.length_take]; omega)
                  have IA := Lib.hid IB.out.1.1
                  rw [hna] at IA
                  have NA := Lib.hid hna
                  clear hna ba
                  go_wp2_with (at_builtin; go_must (refine app_walk _ rfl (.tmp 91) (.tmp 96) 28 rfl w5.heap.size 35 i0 _ 24 Try.underlying28 hi0 hz0 hz1 hz2 rfl u12 na _ rfl IA.out (· = wq.heap.size) (some ⟨wq.heap.size, 0, none⟩) 1 1 [.slice zA zl.length zc] rfl LF.out (Nat.le_refl _) ON.out (by unfold maxLen; omega) (by omega) BB.out ?_; intro yv y4 s4 g4 l4; have S4 := Lib.hid s4; have G4 := Lib.hid g4; have L4 := Lib.hid l4; clear s4 g4 l4))
                  go_roundw
                  case rel => exact ⟨k + 1, tb, by omega, by go_num, rfl, Lib.hid (by rw [mem_more HZ.out (by have h := H1.out; change cmpL zl x ≠ 0; omega)]; exact HTB.out), Lib.hid (IB.out.ahead HZ.out H1.out (own_grown ZQ.out (gr_below (below_al wq (.cells #[.slice zA zl.length zc] 35)) none) (fun _ _ => by simp)) (by rw [NA.out]; exact S4.out) G4.out L4.out)⟩
                  case measure => simp [intOf]; omega
                · have t1 : decide (cmpL zl x < 0) = false := decide_eq_false h1
                  have H1 := Lib.hid h1
                  have LS2 := Lib.hid (rless_any _ _ (.slice xA (m * 4 + 4) xc) (.slice zA zl.length zc) x zl wq (Lies.of_own XQ.out) (Lies.of_own ZQ.out) ZL.out.symm HXLE.out)
                  clear h1
                  go_wp2_with fail
                  refine LS2.out.mono ?_
                  rintro e wp ⟨rfl, m2, rfl⟩
                  have bq : Below wq.heap.size wq (wq.drewN m2) := below_dn (Below.refl _ _) m2
                  have IP := Lib.hid (IQ.out.quiet bq)
                  have ZP := Lib.hid (own_grown ZQ.out (gr_below bq none) (fun _ _ => by simp))
                  have CP : (wq.drewN m2).cell? ⟨g3, k, none⟩ = some (.slice zA zl.length zc) := CQ
                  clear bq LS2 CQ IQ ZQ XQ
                  generalize wq.drewN m2 = wp at IP ZP CP ⊢
                  by_cases h2 : cmpL x zl < 0
                  · have t2 : decide (cmpL x zl < 0) = true := decide_eq_true h2
                    have H2 := Lib.hid h2
                    clear h2
                    have ba := below_al wp (.cells #[.slice zA zl.length zc] 35)
                    have IB := Lib.hid (IP.out.quiet ba)
                    have LF := Lib.hid (Lies.fresh wp (· = wp.heap.size) 35 [.slice zA zl.length zc] wp.heap.size rfl rfl 1)
                    have ON : Hid (∀ u ∈ [Value.slice zA zl.length zc], u.oneCell' = true) := Lib.hid (by simp [Value.oneCell'])
                    have BB := Lib.hid (Nat.le_trans IP.out.2.2.2.size ba.size)
                    obtain ⟨na, hna⟩ : ∃ n, ((Z.take k).filter fun z => decide (cmpL x z.2 < 0)).length = n := ⟨_, rfl⟩
                    have hnam : na ≤ 13900000000 := by
                      rw [← hna]
                      exact Nat.le_trans (List.length_filter_le _ _) (by rw [List.length_take]; omega)
                    have IA := Lib.hid IB.out.2.1.1
                    rw [hna] at IA
                    have NA := Lib.hid hna
                    clear hna ba
                    go_wp2_with (at_builtin; go_must (refine app_walk _ rfl (.tmp 105) (.tmp 110) 28 rfl w5.heap.size 35 i0 _ 24 Try.underlying28 hi0 hz0 hz1 hz2 rfl u13 na _ rfl IA.out (· = wp.heap.size) (some ⟨wp.heap.size, 0, none⟩) 1 1 [.slice zA zl.length zc] rfl LF.out (Nat.le_refl _) ON.out (by unfold maxLen; omega) (by omega) BB.out ?_; intro yv y4 s4 g4 l4; have S4 := Lib.hid s4; have G4 := Lib.hid g4; have L4 := Lib.hid l4; clear s4 g4 l4))
                    go_roundw
                    case rel => exact ⟨k + 1, tb, by omega, by go_num, rfl, Lib.hid (by rw [mem_more HZ.out (by have h := H2.out; have h3 := cmpL_neg x zl; change cmpL zl x ≠ 0; omega)]; exact HTB.out), Lib.hid (IB.out.behind HZ.out H2.out (own_grown ZP.out (gr_below (below_al wp (.cells #[.slice zA zl.length zc] 35)) none) (fun _ _ => by simp)) (by rw [NA.out]; exact S4.out) G4.out L4.out)⟩
                    case measure => simp [intOf]; omega
                  · have t2 : decide (cmpL x zl < 0) = false := decide_eq_false h2
                    have H2 := Lib.hid h2
                    clear h2
                    go_wp2
                    go_roundw
                    case rel => exact ⟨k + 1, true, by omega, by go_num, rfl, Lib.hid (mem_here HZ.out (by have ha := H1.out; have hb := H2.out; have h3 := cmpL_neg x zl; change cmpL zl x = 0; omega)), Lib.hid (IP.out.same HZ.out (Int.not_lt.2 H1.out) (Int.not_lt.2 H2.out))⟩
                    case measure => simp [intOf]; omega
              · obtain rfl : k = o := by omega
                have htk : Z.take k = Z := List.take_of_length_le (by rw [HO.out]; exact Nat.le_refl _)
                have HI2 := HI.out
                have HTB2 := HTB.out
                unfold InsAt at HI2
                rw [htk] at HI2 HTB2
                cases tb with
                | true =>
                  have hin : outS p.length s ∈ Z.map (·.2) := by rw [HX.out]; exact of_decide_eq_true HTB2
                  have HIN := Lib.hid hin
                  have BW := Lib.hid HI2.2.2.2
                  have PZ : Hid (PL w5 w.heap.size w.heap.size (.slice oA k oc) Z) := Lib.hid (by have h := HPL5.out; rw [HO.out] at h; exact h)
                  clear HI2 HTB2 htk hin HTB HI
                  go_wp2
                  go_roundw
                  case rel => exact ⟨j + 1, by omega, by go_num, Lib.hid ⟨Z, PZ.out.below BW.out, HOA.out.there HSJ.out HIN.out, HRS5.out.below BW.out, below_on HBW5.out BW.out⟩⟩
                  case measure => simp [intOf]; omega
                | false =>
                  have hnot : outS p.length s ∉ Z.map (·.2) := by rw [HX.out]; exact of_decide_eq_false HTB2
                  have HNOT := Lib.hid hnot
                  obtain ⟨ZA, hZA⟩ : ∃ ZA, Z.filter (fun z => decide (cmpL z.2 x < 0)) = ZA := ⟨_, rfl⟩
                  obtain ⟨ZB, hZB⟩ : ∃ ZB, Z.filter (fun z => decide (cmpL x z.2 < 0)) = ZB := ⟨_, rfl⟩
                  rw [hZA, hZB] at HI2
                  obtain ⟨hpA, hpB, hne, hbw5⟩ := HI2
                  have hla : ZA.length ≤ k := by rw [← hZA]; exact Nat.le_trans (List.length_filter_le _ _) (by rw [HO.out]; exact Nat.le_refl _)
                  have hlb : ZB.length ≤ k := by rw [← hZB]; exact Nat.le_trans (List.length_filter_le _ _) (by rw [HO.out]; exact Nat.le_refl _)
                  obtain ⟨na, hna⟩ : ∃ n, ZA.length = n := ⟨_, rfl⟩
                  obtain ⟨nb, hnb⟩ : ∃ n, ZB.length = n := ⟨_, rfl⟩
                  rw [hna] at hla
                  rw [hnb] at hlb
                  obtain ⟨bA, bc, eb⟩ := own_shape hpB.1
                  subst eb
                  have ba := below_al wr (.cells #[.slice xA (m * 4 + 4) xc] 35)
                  have PA := Lib.hid (hpA.below ba)
                  have PB := Lib.hid (hpB.below ba)
                  have NE := Lib.hid hne
                  have XA := Lib.hid (show (wr.alloc (.cells #[.slice xA (m * 4 + 4) xc] 35)).ownsRow w.heap.size 3 1 (.slice xA (m * 4 + 4) xc) x.length (ints x) from by
                    have h := own_grown (own_grown XR.out (gr_below hbw5 none) (fun _ _ => by simp)) (gr_below ba none) (fun _ _ => by simp)
                    rw [HXL.out] at h ⊢
                    exact h)
                  have LF := Lib.hid (Lies.fresh wr (· = wr.heap.size) 35 [.slice xA (m * 4 + 4) xc] wr.heap.size rfl rfl 1)
                  have ON : Hid (∀ u ∈ [Value.slice xA (m * 4 + 4) xc], u.oneCell' = true) := Lib.hid (by simp [Value.oneCell'])
                  have BA := Lib.hid (below_on hbw5 ba)
                  have IA := Lib.hid PA.out.1
                  rw [hna] at IA
                  have NA := Lib.hid hna
                  have NB := Lib.hid hnb
                  have EA := Lib.hid hZA
                  have EB := Lib.hid hZB
                  rw [hnb] at PB NE
                  rw [hnb]
                  clear hpA hpB hne hbw5 hna hnb hZA hZB ba HTB HI HTB2 htk hnot
                  go_wp2_with (first
                    | (at_builtin; (refine app_walk _ rfl (.tmp 114) (.tmp 116) 28 rfl w5.heap.size 35 i0 _ 24 Try.underlying28 hi0 hz0 hz1 hz2 rfl u12 na _ rfl IA.out (· = wr.heap.size) (some ⟨wr.heap.size, 0, none⟩) 1 1 [.slice xA (m * 4 + 4) xc] rfl LF.out (Nat.le_refl _) ON.out (by unfold maxLen; omega) (by omega) BA.out.size ?_); intro v1 y1 s1 g1 l1; have S1 := Lib.hid s1; have P1 := Lib.hid (PA.out.push (z := (.slice xA (m * 4 + 4) xc, x)) XA.out (by rw [NA.out]; exact s1) g1); have B1 := Lib.hid (ins_keep PA.out PB.out NE.out g1); have W1 := Lib.hid (BA.out.grown g1 BA.out.size (own_base PA.out.1)); clear s1 g1 l1)
                    | (at_builtin; (refine app_walk _ rfl (.tmp 117) (.tmp 118) 28 rfl w5.heap.size 35 i0 _ 24 Try.underlying28 hi0 hz0 hz1 hz2 rfl v1 (na + 1) _ rfl S1.out (w5.heap.size ≤ ·) bA nb bc (ZB.map (·.1)) rfl (by have h := Lies.of_own B1.out.1; exact h) (CapOk.of_own B1.out.1) (PL.ones B1.out) (by unfold maxLen; omega) (by omega) W1.out.size ?_); intro v2 y2 s2 g2 l2; have P2 := Lib.hid (P1.out.join B1.out (v' := v2) (by rw [List.length_append, List.length_singleton, NA.out, NB.out, List.map_append]; exact s2) g2); have W2 := Lib.hid (W1.out.grown g2 W1.out.size (own_base P1.out.1)); clear s2 g2 l2))
                  go_roundw
                  case rel =>
                    refine ⟨j + 1, by omega, by go_num, Lib.hid ⟨ZA ++ [(.slice xA (m * 4 + 4) xc, x)] ++ ZB, P2.out.rebase HBW5.out.size, ?_, HRS5.out.below W2.out, below_on HBW5.out W2.out⟩⟩
                    have h := HOA.out.put HSJ.out HEND.out HNOT.out
                    rw [HX.out] at h
                    rw [← EA.out, ← EB.out, List.map_append, List.map_append, ins_map, ins_map2]
                    exact h
                  case measure => simp [intOf]; omega
          · have HNE := Lib.hid hend
            have B5 := Lib.hid hb5
            clear hend hb5 OC HCELL
            go_wp2
            go_roundw
            case rel => exact ⟨j + 1, by omega, by go_num, Lib.hid ⟨Z, HPL.out.below B5.out, HOA.out.skip HSJ.out HNE.out, HRS.out.below B5.out, below_on HBW.out B5.out⟩⟩
            case measure => simp [intOf]; omega
        · obtain rfl : j = i := by omega
          have hfin : OutAt p L L.length (Z.map (·.2)) := by rw [HN.out]; exact HOA.out
          have HFIN := Lib.hid hfin
          clear hfin hrs
          go_wp2
          go_ret
          exact ⟨_, _, _, rfl, HPL.out.lists, HFIN.out.outs HR.out HALL.out, HBW.out, Nat.le_trans HFIN.out.len HLM.out⟩

#print axioms OutAt.put
#print axioms OutAt.outs
#print axioms routcomes_any
end Go.Proofs.Ytgljgpllooehkaa
