/-
  Words for slices of records of two cells: a slice that reads as a list of pairs (Two), its tails, append onto a row of the call's own.
  Conditions: those that each theorem states.
-/
import Derived.Test.YtgdbaaoifnedbaaDoorApp
namespace Go.Proofs.YtgdbaaoifnedbaaDoor
open Go.ChangeShapes Go.WideShapes Go.ChangeAt Go.RowKit

/-- Pairs of cells, one behind the other. -/
def flat : List (Value × Value) → List Value
  | [] => []
  | p :: l => p.1 :: p.2 :: flat l

theorem flat_len : ∀ l : List (Value × Value), (flat l).length = l.length * 2
  | [] => rfl
  | p :: l => by simp only [flat, List.length_cons, flat_len l]; omega

theorem flat_append : ∀ a b : List (Value × Value), flat (a ++ b) = flat a ++ flat b
  | [], b => rfl
  | p :: a, b => by simp only [List.cons_append, flat, flat_append a b]

theorem flat_at : ∀ {l : List (Value × Value)} {k : Nat} {p : Value × Value}, l[k]? = some p → (flat l)[k * 2]? = some p.1 ∧ (flat l)[k * 2 + 1]? = some p.2
  | [], k, p, h => by simp at h
  | q :: l, 0, p, h => by
    simp only [List.getElem?_cons_zero, Option.some.injEq] at h
    subst h
    exact ⟨rfl, rfl⟩
  | q :: l, k + 1, p, h => by
    have h1 : l[k]? = some p := by simpa using h
    have e : (k + 1) * 2 = k * 2 + 1 + 1 := by omega
    rw [e]
    simpa [flat] using flat_at h1

theorem flat_drop : ∀ (k : Nat) (l : List (Value × Value)), flat (l.drop k) = (flat l).drop (k * 2)
  | 0, l => by simp
  | k + 1, [] => by simp [flat]
  | k + 1, p :: l => by
    have e : (k + 1) * 2 = k * 2 + 1 + 1 := by omega
    rw [e]
    simpa [flat] using flat_drop k l

/-- The slice v holds the pairs l; its block, if it has elements, is one of those that P allows. -/
def Two (w : World) (P : Nat → Prop) (v : Value) (l : List (Value × Value)) : Prop :=
  ∃ A c, v = .slice A l.length c ∧ (0 < l.length → ∃ g o, A = some ⟨g, o, none⟩ ∧ P g ∧ g < w.heap.size ∧ ∀ j u, (flat l)[j]? = some u → w.cell? ⟨g, o + j, none⟩ = some u)

theorem Two.weak {w : World} {P Q : Nat → Prop} {v : Value} {l : List (Value × Value)} (h : Two w P v l) (hPQ : ∀ g, g < w.heap.size → P g → Q g) : Two w Q v l := by
  obtain ⟨A, c, rfl, hc⟩ := h
  refine ⟨A, c, rfl, fun hp => ?_⟩
  obtain ⟨g, o, hA, hP, hlt, hcell⟩ := hc hp
  exact ⟨g, o, hA, hPQ g hlt hP, hlt, hcell⟩

theorem Two.only {S : Nat → Prop} {w w' : World} {P : Nat → Prop} {v : Value} {l : List (Value × Value)} (h : Two w P v l) (ho : Only S w w') (hr : ∀ g, S g → ¬ P g) : Two w' P v l := by
  obtain ⟨A, c, rfl, hc⟩ := h
  refine ⟨A, c, rfl, fun hp => ?_⟩
  obtain ⟨g, o, hA, hP, hlt, hcell⟩ := hc hp
  refine ⟨g, o, hA, hP, Nat.lt_of_lt_of_le hlt ho.size, fun j u hu => ?_⟩
  rw [World.cell?_of_block (w := w) (ho.block g hlt (fun e => hr g e hP))]
  exact hcell j u hu

theorem Two.below {w w' : World} {P : Nat → Prop} {v : Value} {l : List (Value × Value)} (h : Two w P v l) (hb : Below w.heap.size w w') : Two w' P v l :=
  h.only (Only.of_below hb (fun _ => False)) (fun _ h => h.elim)

theorem Two.nil_ (w : World) (P : Nat → Prop) : Two w P (.slice none 0 0) [] := ⟨none, 0, rfl, fun h => absurd h (by simp)⟩

theorem Two.of_own {w : World} {base : Nat} {e : TypeId} {v : Value} {n : Nat} {l : List (Value × Value)} (h : w.ownsRow base e 2 v n (flat l)) : Two w (fun b => v.ownBlock = some b) v l := by
  obtain ⟨hl, h2⟩ := h
  rw [flat_len] at hl
  have hn : l.length = n := by omega
  subst hn
  rcases h2 with ⟨rfl, h0⟩ | ⟨g, cap, cur, rfl, hb, hg, hn, hm, hs, ht⟩
  · obtain rfl : l = [] := List.eq_nil_of_length_eq_zero h0
    exact Two.nil_ w _
  · refine ⟨_, cap, rfl, fun _ => ⟨g, 0, rfl, rfl, (Array.getElem?_eq_some_iff.1 hg).1, fun j u hu => ?_⟩⟩
    rw [Nat.zero_add, cell_of_row w g j cur e (0, 0) hg]
    rw [← ht, List.getElem?_take] at hu
    split at hu
    · simpa using hu
    · cases hu

/-- A slice written out; what else is known of it stays hidden. -/
theorem Two.open_ {w : World} {P : Nat → Prop} {v : Value} {l : List (Value × Value)} (h : Two w P v l) : ∃ A n c, v = .slice A n c ∧ Hid (l.length = n) ∧ Hid (Two w P (.slice A n c) l) := by
  have h0 := h
  obtain ⟨A, c, rfl, _⟩ := h
  exact ⟨A, _, c, rfl, rfl, h0⟩

/-- Pair number k. -/
theorem Two.cells {w : World} {P : Nat → Prop} {A : Option Addr} {n c : Nat} {l : List (Value × Value)} (h : Two w P (.slice A n c) l) {k : Nat} {p : Value × Value} (hk : l[k]? = some p) :
    ∃ g o, A = some ⟨g, o, none⟩ ∧ P g ∧ g < w.heap.size ∧ w.cell? ⟨g, o + k * 2, none⟩ = some p.1 ∧ w.cell? ⟨g, o + k * 2 + 1, none⟩ = some p.2 := by
  obtain ⟨A', c', hv, hA⟩ := h
  injection hv with e1 e2 e3
  subst e1
  have hlt : k < l.length := (List.getElem?_eq_some_iff.1 hk).1
  obtain ⟨g, o, rfl, hP, hg, hc⟩ := hA (by omega)
  obtain ⟨h1, h2⟩ := flat_at hk
  exact ⟨g, o, rfl, hP, hg, hc _ _ h1, by rw [Nat.add_assoc]; exact hc _ _ h2⟩

/-- The slice from number k on. -/
theorem Two.from_ {w : World} {P : Nat → Prop} {A : Option Addr} {n c k : Nat} {l : List (Value × Value)} (h : Two w P (.slice A n c) l) (hcap : CapOk (.slice A n c)) (hk : k ≤ n) :
    Two w P (.slice (if c = k then A else A.map (·.add (k * 2))) (n - k) (c - k)) (l.drop k) ∧ CapOk (.slice (if c = k then A else A.map (·.add (k * 2))) (n - k) (c - k)) := by
  obtain ⟨A', c', hv, hA⟩ := h
  injection hv with e1 e2 e3
  subst e1 e3
  have hl : (l.drop k).length = n - k := by simp [e2]
  rw [← hl]
  by_cases h0 : 0 < l.length
  · obtain ⟨g, o, rfl, hP, hlt, hc⟩ := hA h0
    have hcap' : n ≤ c := hcap
    by_cases h1 : c = k
    · rw [if_pos h1]
      refine ⟨⟨_, _, rfl, fun h => absurd h (by omega)⟩, by show _ ≤ _; omega⟩
    · rw [if_neg h1]
      refine ⟨⟨_, _, rfl, fun _ => ⟨g, o + k * 2, by simp [Addr.add], hP, hlt, fun j u hu => ?_⟩⟩, by show _ ≤ _; omega⟩
      rw [flat_drop, List.getElem?_drop] at hu
      rw [Nat.add_assoc]
      exact hc _ _ hu
  · have hk0 : k = 0 := by omega
    subst hk0
    refine ⟨⟨_, _, rfl, fun h => absurd h (by omega)⟩, ?_⟩
    cases A with
    | none =>
      have hc0 : c = 0 := hcap
      subst hc0
      rw [if_pos rfl]
      rfl
    | some ad =>
      have hcap' : n ≤ c := hcap
      split <;> (show _ ≤ _; omega)

/-- The run of an append from a slice that reads as a list of pairs. -/
theorem app2_run {P : Program} (w : World) (base : Nat) (t ty e : TypeId) (i : TypeInfo) (z : Value) (bytes : Nat) (ht : P.underlying t = some (.slice e)) (hi : P.info? e = some i) (hz : i.zero = some z)
    (hsize : i.size = 2) (hby : i.bytes = bytes) (hzs : z.cells.size = 2) (v : Value) (n : Nat) (xs : List Value) (hown : w.ownsRow base e 2 v n xs)
    (Pl : Nat → Prop) (A : Option Addr) (m c : Nat) (news : List (Value × Value)) (hr : Two w Pl (.slice A m c) news) (hcap : CapOk (.slice A m c)) (h1 : ∀ u ∈ flat news, u.oneCell' = true)
    (h63 : n + m ≤ maxLen) (hbytes : (n + m) * bytes ≤ 140737488355328) (hbase : base ≤ w.heap.size) :
    ∃ v' w', (Builtin.append_ #[t, t] ty #[v, .slice A m c]).run P w = .ok v' w' ∧ w'.ownsRow base e 2 v' (n + m) (xs ++ flat news) ∧ w.grownBy w' v.ownBlock ∧ (v'.ownBlock = v.ownBlock ∨ v'.ownBlock = some w.heap.size) := by
  obtain ⟨A', c', hv, hc⟩ := hr
  injection hv with hA hm hcc
  subst hA hm hcc
  by_cases h0 : 0 < news.length
  · obtain ⟨g, o, rfl, _, _, hcell⟩ := hc h0
    obtain ⟨v', w', hrun, h2, h3, _, h5⟩ := run_append_own_at (P := P) w base t ty e i z 2 bytes ht hi hz hsize hby hzs (by omega) v n xs hown ⟨g, o, none⟩ news.length c (flat news) (flat_len _) (fun j u hu => by rw [Addr.add_lit]; exact hcell j u hu) h1 h63 hbytes hbase
    exact ⟨v', w', hrun, h2, h3, h5⟩
  · obtain rfl : news = [] := List.eq_nil_of_length_eq_zero (by omega)
    cases A with
    | none =>
      obtain rfl : c = 0 := hcap
      refine ⟨v, w, ?_, by simpa [flat] using hown, gr_refl _ _, .inl rfl⟩
      exact run_append_owned_none w base t ty e i 2 ht hi v n xs hown
    | some ad =>
      obtain ⟨v', w', hrun, h2, h3, _, h5⟩ := run_append_own_at (P := P) w base t ty e i z 2 bytes ht hi hz hsize hby hzs (by omega) v n xs hown ad 0 c [] (by simp) (by simp) (by simp) h63 hbytes hbase
      exact ⟨v', w', hrun, h2, h3, h5⟩

theorem app2_walk {P : Program} (w : World) {ops : Array Oper} {rest : List Oper} {o : Oper} {a : Act} {Q : Exit → Act → World → Prop} (hgd : o.guard = none) (s x : Operand) (t : TypeId)
    (ho : o.op = .call { callee := .builtin .append, args := #[s, x], argTypes := #[t, t] }) (base : Nat) (e : TypeId) (i : TypeInfo) (z : Value) (bytes : Nat) (ht : P.underlying t = some (.slice e)) (hi : P.info? e = some i) (hz : i.zero = some z)
    (hsize : i.size = 2) (hby : i.bytes = bytes) (hzs : z.cells.size = 2) (v : Value) (n : Nat) (xs : List Value) (hs : a.eval s = v) (hown : w.ownsRow base e 2 v n xs)
    (Pl : Nat → Prop) (A : Option Addr) (m c : Nat) (news : List (Value × Value)) (hx : a.eval x = .slice A m c) (hr : Two w Pl (.slice A m c) news) (hcap : CapOk (.slice A m c)) (h1 : ∀ u ∈ flat news, u.oneCell' = true)
    (h63 : n + m ≤ maxLen) (hbytes : (n + m) * bytes ≤ 140737488355328) (hbase : base ≤ w.heap.size)
    (h : ∀ v' w', w'.ownsRow base e 2 v' (n + m) (xs ++ flat news) → w.grownBy w' v.ownBlock → (v'.ownBlock = v.ownBlock ∨ v'.ownBlock = some w.heap.size) → wpList P ops Q rest (a.put o.dst v') w') : wpList P ops Q (o :: rest) a w := by
  obtain ⟨v', w', hrun, h2, h3, h4⟩ := app2_run (P := P) w base t o.type e i z bytes ht hi hz hsize hby hzs v n xs hown Pl A m c news hr hcap h1 h63 hbytes hbase
  refine wpList_plain hgd fun K hK => ?_
  unfold Oper.wp
  simp [execOp, ho, resolve, invoke, builtin, hs, hx, hrun, Result.andThen]
  exact hK _ _ (h v' w' h2 h3 h4)

/-- A literal of one pair in a new block. -/
theorem Two.one (w : World) (a b : Value) (t : TypeId) (c : Nat) : Two (w.alloc (.cells #[a, b] t)) (· = w.heap.size) (.slice (some ⟨w.heap.size, 0, none⟩) 1 c) [(a, b)] :=
  ⟨_, c, rfl, fun _ => ⟨w.heap.size, 0, rfl, rfl, by simp, fun j u hu => by
    have := Row.cell (Row.new w t #[a, b]) (0 + j)
    rw [Nat.zero_add] at this ⊢
    rw [this]
    exact hu⟩⟩

/-- A row of the call's own, behind a call that changed other blocks. -/
theorem own_only {S : Nat → Prop} {w w' : World} {base : Nat} {e : TypeId} {size : Nat} {v : Value} {n : Nat} {xs : List Value} (h : w.ownsRow base e size v n xs) (ho : Only S w w') (hn : ∀ k, v.ownBlock = some k → ¬ S k) : w'.ownsRow base e size v n xs := by
  refine ⟨h.1, ?_⟩
  rcases h.2 with h2 | ⟨g, cap, cur, rfl, hb, hg, r⟩
  · exact .inl h2
  · exact .inr ⟨g, cap, cur, rfl, hb, (ho.block g (Array.getElem?_eq_some_iff.1 hg).1 (hn g rfl)).trans hg, r⟩

theorem Only.of_own {w w' : World} {v : Value} (h : w.grownBy w' v.ownBlock) : Only (fun b => v.ownBlock = some b) w w' :=
  ⟨h.os, h.tape, h.output, h.size, fun k hk hn => h.block k hk (fun e => hn e.symm)⟩

#print axioms Two.from_
#print axioms app2_walk
end Go.Proofs.YtgdbaaoifnedbaaDoor
