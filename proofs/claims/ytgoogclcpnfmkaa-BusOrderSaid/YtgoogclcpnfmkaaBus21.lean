/-
  Layer 6's law BusOrder: numbers and state.
  Conditions: those that each theorem states.
-/
import Derived.Test.YtgoogclcpnfmkaaBus19
import Derived.Test.YtgoogclcpnfmkaaArgs
namespace Go.Proofs.Ytgoogclcpnfmkaa
open Go.ChangeShapes Go.WideShapes Go.ChangeAt Go.RowKit

/-- What a core has stored and not drained, with what a call adds. -/
def addQ (q : List (Int × Int)) (K a x : Int) : List (Int × Int) := q ++ (if K = 0 then [(a, x)] else [])
/-- How many of these a call drains. -/
def outN (N : Nat) (l : List Int) (q : List (Int × Int)) (K a x : Int) : Nat := (addQ q K a x).length - (pQ N l q K a x).length

theorem order_step {N : Nat} {l : List Int} {q : List (Int × Int)} {K a x : Int} (hN : 1 ≤ N) (h4 : K ≠ 4) (h5 : K ≠ 5) (hE : pE l K a x = 0) :
    pQ N l q K a x = (addQ q K a x).drop (outN N l q K a x) ∧ pL N l q K a x = drs l ((addQ q K a x).take (outN N l q K a x)) ∧ outN N l q K a x + (pQ N l q K a x).length = (addQ q K a x).length := by
  have key : ∀ (e q' : List (Int × Int)) (l' : List Int) (t : Nat), q' = e.drop t → l' = drs l (e.take t) → t ≤ e.length → q' = e.drop (e.length - q'.length) ∧ l' = drs l (e.take (e.length - q'.length)) ∧ (e.length - q'.length) + q'.length = e.length := by
    intro e q' l' t h1 h2 h3
    have e1 : e.length - q'.length = t := by rw [h1, List.length_drop]; omega
    rw [e1]
    exact ⟨h1, h2, by rw [h1, List.length_drop]; omega⟩
  unfold outN
  unfold pE at hE
  by_cases h0 : K = 0
  · rw [if_pos h0] at hE
    have eq : pQ N l q K a x = stoQ N l q a x := by unfold pQ; rw [if_pos h0]
    have el : pL N l q K a x = stoL N l q a x := by unfold pL; rw [if_pos h0]
    have ea : addQ q K a x = q ++ [(a, x)] := by unfold addQ; rw [if_pos h0]
    rw [eq, el, ea]
    unfold stoQ stoL
    rw [if_pos hE, if_pos hE]
    by_cases hf : q.length = N
    · rw [if_pos hf, if_pos hf]
      refine key _ _ _ 1 ?_ ?_ (by simp)
      · cases q with
        | nil => simp at hf; omega
        | cons p t => rfl
      · cases q with
        | nil => simp at hf; omega
        | cons p t => rfl
    · rw [if_neg hf, if_neg hf]
      exact key _ _ _ 0 rfl rfl (Nat.zero_le _)
  have ea : addQ q K a x = q := by unfold addQ; rw [if_neg h0, List.append_nil]
  rw [ea]
  by_cases h2 : K = 2
  · have eq : pQ N l q K a x = q.drop 1 := by unfold pQ; rw [if_neg h0, if_pos h2]
    have el : pL N l q K a x = drs l (q.take 1) := by unfold pL; rw [if_neg h0, if_pos h2]
    rw [eq, el]
    by_cases hq : q = []
    · subst hq
      exact key _ _ _ 0 rfl rfl (Nat.zero_le _)
    · refine key _ _ _ 1 rfl rfl ?_
      cases q with
      | nil => exact absurd rfl hq
      | cons p t => simp
  by_cases h3 : K = 3
  · have eq : pQ N l q K a x = [] := by unfold pQ; rw [if_neg h0, if_neg h2, if_pos h3]
    have el : pL N l q K a x = drs l q := by unfold pL; rw [if_neg h0, if_neg h2, if_pos h3]
    rw [eq, el]
    exact key q [] (drs l q) q.length (by simp) (by rw [List.take_length]) (Nat.le_refl _)
  have eq : pQ N l q K a x = q := by unfold pQ; rw [if_neg h0, if_neg h2, if_neg h3, if_neg h4, if_neg h5]
  have el : pL N l q K a x = l := by unfold pL; rw [if_neg h0, if_neg h2, if_neg h3, if_neg h4]
  rw [eq, el]
  exact key q q l 0 rfl rfl (Nat.zero_le _)

/-- The state of BusOrder: the bus; the rows of lists of stores (S1), of counts (S2), of words (S3). hs: what each core stored; os: how many of these are drained. -/
structure Ord6 (w wr : World) (L : Lay) (N C n S1 S2 S3 : Nat) (l ram : List Int) (qs hs : List (List (Int × Int))) (os : List Int) (sv : List Value) : Prop where
  on : OnBus w wr L N l qs
  row1 : Row wr S1 60 sv
  row2 : Row wr S2 3 (ints os)
  row3 : Row wr S3 3 (ints ram)
  own : ∀ (i : Nat) (v : Value) (h : List (Int × Int)), sv[i]? = some v → hs[i]? = some h → wr.ownsRow w.heap.size 62 2 v h.length (flat (sts h))
  dis : ∀ (i j : Nat) (v u : Value) (b : Nat), i ≠ j → sv[i]? = some v → sv[j]? = some u → v.ownBlock = some b → u.ownBlock ≠ some b
  far2 : ¬ L.fp C S2
  far3 : ¬ L.fp C S3
  s23 : S2 ≠ S3
  new : w.heap.size ≤ S1 ∧ w.heap.size ≤ S2 ∧ w.heap.size ≤ S3
  lenq : qs.length = C
  lenh : hs.length = C
  leno : os.length = C
  lenv : sv.length = C
  lenl : l.length = n
  lenr : ram.length = n

/-- A block of stores of the law's own is none of the other blocks. -/
theorem own_ne {w : World} {base : Nat} {e : TypeId} {size : Nat} {v : Value} {k : Nat} {xs : List Value} (h : w.ownsRow base e size v k xs) {b : Nat} (hb : v.ownBlock = some b) {t : TypeId} {cs : List Value} (hr : Row w b t cs) : e = t := by
  rcases h.2 with ⟨rfl, _⟩ | ⟨g, cap, cur, rfl, _, hg, _⟩
  · cases hb
  · injection hb with hb
    simp at hb
    subst hb
    unfold Row at hr
    rw [hg] at hr
    injection hr with hr
    injection hr with _ ht

theorem Ord6.below {w wr w' : World} {L : Lay} {N C n S1 S2 S3 : Nat} {l ram : List Int} {qs hs : List (List (Int × Int))} {os : List Int} {sv : List Value} (m : Ord6 w wr L N C n S1 S2 S3 l ram qs hs os sv) (hb : Below wr.heap.size wr w') : Ord6 w w' L N C n S1 S2 S3 l ram qs hs os sv :=
  { m with on := m.on.below hb, row1 := m.row1.below hb, row2 := m.row2.below hb, row3 := m.row3.below hb, own := fun i v h h1 h2 => own_only (m.own i v h h1 h2) (Only.of_below hb (fun _ => False)) (fun _ _ h => h) }

/-- A call on the bus. -/
theorem Ord6.step {w wr w2 : World} {L : Lay} {N C n S1 S2 S3 : Nat} {l l' ram : List Int} {qs qs' hs : List (List (Int × Int))} {os : List Int} {sv : List Value} {a : Value} {e : Ending} (m : Ord6 w wr L N C n S1 S2 S3 l ram qs hs os sv) (hq : qs'.length = qs.length) (hl : l'.length = l.length) (h : BusP L N l' qs' a wr e w2) :
    ∃ f, e = .returned a ∧ Ord6 w w2 (L.up f) N C n S1 S2 S3 l' ram qs' hs os sv ∧ Only (L.fp C) wr w2 := by
  obtain ⟨f, he, hm, ho, hx⟩ := m.on.step hq h
  rw [m.lenq] at ho hx
  have t : ∀ b, L.fp C b → ∃ ty cs, Row wr b ty cs ∧ ty ≠ 60 ∧ ty ≠ 62 := by
    intro b hb
    rcases hb with rfl | rfl | rfl | rfl | ⟨i, hi, rfl | hb⟩
    · exact ⟨_, _, m.on.bus.top, by decide, by decide⟩
    · exact ⟨_, _, m.on.bus.ram.top, by decide, by decide⟩
    · exact ⟨_, _, m.on.bus.ram.low, by decide, by decide⟩
    · exact ⟨_, _, m.on.bus.row, by decide, by decide⟩
    · obtain ⟨A, c, hx⟩ := m.on.bus.buf i _ (List.getElem?_eq_getElem (by rw [m.lenq]; exact hi))
      exact ⟨_, _, hx.top, by decide, by decide⟩
    · obtain ⟨A, c, hx⟩ := m.on.bus.buf i _ (List.getElem?_eq_getElem (by rw [m.lenq]; exact hi))
      rcases hx.mem with ⟨_, h0⟩ | ⟨b', off, cs, hh, _, hr, _⟩
      · rw [hb] at h0; cases h0
      · rw [hb] at hh
        injection hh with hh
        subst hh
        exact ⟨_, _, hr, by decide, by decide⟩
  have far1 : ¬ L.fp C S1 := fun hf => by
    obtain ⟨ty, cs, hr, h1, _⟩ := t S1 hf
    exact hr.ne m.row1 h1 rfl
  refine ⟨f, he, { m with on := hm, row1 := m.row1.only ho far1, row2 := m.row2.only ho m.far2, row3 := m.row3.only ho m.far3, own := ?_, far2 := ?_, far3 := ?_, lenq := hq.trans m.lenq, lenl := hl.trans m.lenl }, ho⟩
  · intro i v h h1 h2
    refine own_only (m.own i v h h1 h2) ho (fun b hb hf => ?_)
    obtain ⟨ty, cs, hr, _, h3⟩ := t b hf
    exact h3 (own_ne (m.own i v h h1 h2) hb hr).symm
  · exact fun hf => (hx S2 hf).elim m.far2 (fun h => by have := m.row2.lt; omega)
  · exact fun hf => (hx S3 hf).elim m.far3 (fun h => by have := m.row3.lt; omega)

/-- A store into the counts, into the words. -/
theorem Ord6.count {w wr : World} {L : Lay} {N C n S1 S2 S3 : Nat} {l ram : List Int} {qs hs : List (List (Int × Int))} {os : List Int} {sv : List Value} (m : Ord6 w wr L N C n S1 S2 S3 l ram qs hs os sv) (i : Nat) (z : Int) : Ord6 w (wr.setCell ⟨S2, i, none⟩ (.int .i64 z)) L N C n S1 S2 S3 l ram qs hs (os.set i z) sv := by
  have ho := (Only.refl (fun b => b = S2) wr).setCell (p := ⟨S2, i, none⟩) (.inl rfl) (.int .i64 z)
  refine { m with on := ⟨m.on.bus.setVar (by rw [m.lenq]; exact m.far2) i _, m.on.new, m.on.bel.setCell (p := ⟨S2, i, none⟩) m.new.2.1 _⟩, row1 := m.row1.only ho (m.row1.ne m.row2 (by decide)), row2 := by rw [ints_set]; exact m.row2.put i _, row3 := m.row3.only ho (fun e => m.s23 e.symm), own := fun j v h h1 h2 => own_only (m.own j v h h1 h2) ho (fun b hb e => ?_), leno := by rw [List.length_set]; exact m.leno }
  subst e
  exact absurd (own_ne (m.own j v h h1 h2) hb m.row2) (by decide)
theorem Ord6.word {w wr : World} {L : Lay} {N C n S1 S2 S3 : Nat} {l ram : List Int} {qs hs : List (List (Int × Int))} {os : List Int} {sv : List Value} (m : Ord6 w wr L N C n S1 S2 S3 l ram qs hs os sv) (i : Nat) (z : Int) : Ord6 w (wr.setCell ⟨S3, i, none⟩ (.int .i64 z)) L N C n S1 S2 S3 l (ram.set i z) qs hs os sv := by
  have ho := (Only.refl (fun b => b = S3) wr).setCell (p := ⟨S3, i, none⟩) (.inl rfl) (.int .i64 z)
  refine { m with on := ⟨m.on.bus.setVar (by rw [m.lenq]; exact m.far3) i _, m.on.new, m.on.bel.setCell (p := ⟨S3, i, none⟩) m.new.2.2 _⟩, row1 := m.row1.only ho (m.row1.ne m.row3 (by decide)), row3 := by rw [ints_set]; exact m.row3.put i _, row2 := m.row2.only ho m.s23, own := fun j v h h1 h2 => own_only (m.own j v h h1 h2) ho (fun b hb e => ?_), lenr := by rw [List.length_set]; exact m.lenr }
  subst e
  exact absurd (own_ne (m.own j v h h1 h2) hb m.row3) (by decide)

/-- An append to the list of core i, and its store into the row of lists. -/
theorem Ord6.append {w wr W w2 : World} {L : Lay} {N C n S1 S2 S3 : Nat} {l ram : List Int} {qs hs : List (List (Int × Int))} {os : List Int} {sv : List Value} (m : Ord6 w wr L N C n S1 S2 S3 l ram qs hs os sv) {i : Nat} {v v' : Value} {h : List (Int × Int)} {p : Int × Int}
    (hv : sv[i]? = some v) (hh : hs[i]? = some h) (hb : Below wr.heap.size wr W) (hown : w2.ownsRow w.heap.size 62 2 v' (h.length + 1) (flat (sts h) ++ flat (sts [p]))) (hg : W.grownBy w2 v.ownBlock) (hat : v'.ownBlock = v.ownBlock ∨ v'.ownBlock = some W.heap.size) :
    Ord6 w (w2.setCell ⟨S1, i, none⟩ v') L N C n S1 S2 S3 l ram qs (hs.set i (h ++ [p])) os (sv.set i v') := by
  have mW := m.below hb
  have ho := Only.of_own hg
  have ty : ∀ b, v.ownBlock = some b → ∀ t cs, Row W b t cs → t = 62 := fun b hb' t cs hr => (own_ne (mW.own i v h hv hh) hb' hr).symm
  have nS1 : ¬ v.ownBlock = some S1 := fun e => absurd (ty S1 e _ _ mW.row1) (by decide)
  have nS2 : ¬ v.ownBlock = some S2 := fun e => absurd (ty S2 e _ _ mW.row2) (by decide)
  have nS3 : ¬ v.ownBlock = some S3 := fun e => absurd (ty S3 e _ _ mW.row3) (by decide)
  have nfp : ∀ b, L.fp qs.length b → ¬ v.ownBlock = some b := by
    intro b hf e
    rcases hf with rfl | rfl | rfl | rfl | ⟨j, hj, rfl | hf⟩
    · exact absurd (ty _ e _ _ mW.on.bus.top) (by decide)
    · exact absurd (ty _ e _ _ mW.on.bus.ram.top) (by decide)
    · exact absurd (ty _ e _ _ mW.on.bus.ram.low) (by decide)
    · exact absurd (ty _ e _ _ mW.on.bus.row) (by decide)
    · obtain ⟨A, c, hx⟩ := mW.on.bus.buf j _ (List.getElem?_eq_getElem hj)
      exact absurd (ty _ e _ _ hx.top) (by decide)
    · obtain ⟨A, c, hx⟩ := mW.on.bus.buf j _ (List.getElem?_eq_getElem hj)
      rcases hx.mem with ⟨_, h0⟩ | ⟨b', off, cs, hh', _, hr, _⟩
      · rw [hf] at h0; cases h0
      · rw [hf] at hh'
        injection hh' with hh'
        subst hh'
        exact absurd (ty _ e _ _ hr) (by decide)
  have hold : ∀ b, v.ownBlock = some b → w.heap.size ≤ b := fun b e => ((mW.own i v h hv hh).lt b e).1
  have hO2 := (Only.refl (fun b => b = S1) w2).setCell (p := ⟨S1, i, none⟩) (.inl rfl) v'
  have r1 := (mW.row1.only ho nS1).put i v'
  have hi : i < sv.length := lt_of_at hv
  have hblk : ∀ b, v'.ownBlock = some b → v.ownBlock = some b ∨ b = W.heap.size := fun b e => hat.elim (fun h => .inl (h ▸ e)) (fun h => .inr (by rw [h] at e; injection e with e; exact e.symm))
  have onW : BusAt (w2.setCell ⟨S1, i, none⟩ v') L N l qs := (mW.on.bus.only ho nfp).only hO2 (fun b hf e => by
    subst e
    have hr1 := mW.row1
    rcases hf with e | e | e | e | ⟨j, hj, e | e⟩
    · rw [e] at hr1; exact hr1.ne mW.on.bus.top (by decide) rfl
    · rw [e] at hr1; exact hr1.ne mW.on.bus.ram.top (by decide) rfl
    · rw [e] at hr1; exact hr1.ne mW.on.bus.ram.low (by decide) rfl
    · rw [e] at hr1; exact hr1.ne mW.on.bus.row (by decide) rfl
    · obtain ⟨A, c, hx⟩ := mW.on.bus.buf j _ (List.getElem?_eq_getElem hj)
      rw [e] at hr1; exact hr1.ne hx.top (by decide) rfl
    · obtain ⟨A, c, hx⟩ := mW.on.bus.buf j _ (List.getElem?_eq_getElem hj)
      rcases hx.mem with ⟨_, h0⟩ | ⟨b', off, cs, hh', _, hr, _⟩
      · rw [e] at h0; cases h0
      · rw [e] at hh'
        injection hh' with hh'
        subst hh'
        exact hr1.ne hr (by decide) rfl)
  have hbelW : Below w.heap.size w w2 := Only.below mW.on.bel ho mW.on.bel.size (fun b hb' e => by have := hold b e; omega)
  refine { m with on := ⟨onW, m.on.new, hbelW.setCell (p := ⟨S1, i, none⟩) m.new.1 _⟩, row1 := r1, row2 := (mW.row2.only ho nS2).only hO2 (fun e => mW.row2.ne mW.row1 (by decide) e), row3 := (mW.row3.only ho nS3).only hO2 (fun e => mW.row3.ne mW.row1 (by decide) e), own := ?_, dis := ?_, lenh := by rw [List.length_set]; exact m.lenh, lenv := by rw [List.length_set]; exact m.lenv }
  · intro j u h' h1 h2
    rw [List.getElem?_set] at h1 h2
    by_cases e : i = j
    · rw [if_pos e] at h1 h2
      rw [if_pos hi] at h1
      rw [if_pos (by rw [m.lenh, ← m.lenv]; exact hi)] at h2
      injection h1 with h1
      injection h2 with h2
      subst h1 h2
      rw [List.length_append, sts_append, flat_append]
      exact own_only hown hO2 (fun b hb' e' => by
        rw [e'] at hb'
        rcases hblk S1 hb' with h3 | h3
        · exact nS1 h3
        · have := mW.row1.lt; omega)
    · rw [if_neg e] at h1 h2
      exact own_only (own_only (mW.own j u h' h1 h2) ho (fun b hb' hb2 => m.dis i j v u b e hv h1 hb2 hb')) hO2 (fun b hb' e' => by
        rw [e'] at hb'
        exact absurd (own_ne (mW.own j u h' h1 h2) hb' mW.row1) (by decide))
  · intro j k u u' b hjk h1 h2 h3
    rw [List.getElem?_set] at h1 h2
    by_cases e : i = j
    · rw [if_pos e, if_pos hi] at h1
      rw [if_neg (by omega)] at h2
      injection h1 with h1
      subst h1
      obtain ⟨hk, hk'⟩ := List.getElem?_eq_some_iff.1 h2
      rcases hblk b h3 with h4 | h4
      · exact m.dis i k v u' b (by omega) hv h2 h4
      · intro h5
        have := (mW.own k u' _ h2 (List.getElem?_eq_getElem (by rw [m.lenh, ← m.lenv]; exact hk))).lt b h5
        omega
    · rw [if_neg e] at h1
      by_cases e2 : i = k
      · rw [if_pos e2, if_pos hi] at h2
        injection h2 with h2
        subst h2
        intro h5
        obtain ⟨hj, hj'⟩ := List.getElem?_eq_some_iff.1 h1
        rcases hblk b h5 with h4 | h4
        · exact m.dis i j v u b e hv h1 h4 h3
        · have := (mW.own j u _ h1 (List.getElem?_eq_getElem (by rw [m.lenh, ← m.lenv]; exact hj))).lt b h3
          omega
      · rw [if_neg e2] at h2
        exact m.dis j k u u' b hjk h1 h2 h3

#print axioms order_step
#print axioms Ord6.step
#print axioms Ord6.append
end Go.Proofs.Ytgoogclcpnfmkaa
