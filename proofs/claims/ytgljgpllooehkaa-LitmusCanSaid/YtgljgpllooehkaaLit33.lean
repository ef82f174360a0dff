/-
  Layer 7 (litmus): lists of lists of operations in the making: append of records of four; a list of such lists reads as programs.
  Conditions: those that each theorem states.
-/
import Derived.Test.YtgljgpllooehkaaLit32
import Derived.Test.YtgljgpllooehkaaLit31
namespace Go.Proofs.Ytgljgpllooehkaa
open Go.ChangeShapes Go.WideShapes Go.ChangeAt Go.RowKit

/-- An append of elements of any size that lie from an address on. -/
theorem appN_walk {P : Program} {w : World} {ops : Array Oper} {rest : List Oper} {o : Oper} {a : Act} {Q : Exit → Act → World → Prop} (hgd : o.guard = none) (s x : Operand) (t : TypeId)
    (ho : o.op = .call { callee := .builtin .append, args := #[s, x], argTypes := #[t, t] }) (base : Nat) (e : TypeId) (i : TypeInfo) (z : Value) (size bytes : Nat) (ht : P.underlying t = some (.slice e)) (hi : P.info? e = some i) (hz : i.zero = some z)
    (hsize : i.size = size) (hby : i.bytes = bytes) (hzs : z.cells.size = size) (hpos : 0 < size) (v : Value) (n : Nat) (xs : List Value) (hs : a.eval s = v) (hown : w.ownsRow base e size v n xs)
    (ad : Addr) (m c : Nat) (news : List Value) (hx : a.eval x = .slice (some ad) m c) (hn : news.length = m * size) (hc : ∀ j u, news[j]? = some u → w.cell? (ad.add j) = some u) (h1 : ∀ u ∈ news, u.oneCell' = true)
    (h63 : n + m ≤ maxLen) (hbytes : (n + m) * bytes ≤ 140737488355328) (hbase : base ≤ w.heap.size)
    (h : ∀ v' w', w'.ownsRow base e size v' (n + m) (xs ++ news) → w.grownBy w' v.ownBlock → (v'.ownBlock = v.ownBlock ∨ v'.ownBlock = some w.heap.size) → wpList P ops Q rest (a.put o.dst v') w') : wpList P ops Q (o :: rest) a w := by
  obtain ⟨v', w', hrun, h2, h3, _, h5⟩ := run_append_own_at (P := P) w base t o.type e i z size bytes ht hi hz hsize hby hzs hpos v n xs hown ad m c news hn hc h1 h63 hbytes hbase
  refine wpList_plain hgd fun K hK => ?_
  unfold Oper.wp
  simp [execOp, ho, resolve, invoke, builtin, hs, hx, hrun, Result.andThen]
  exact hK _ _ (h v' w' h2 h3 h5)

def opsL (l : List Opn) : List Int := l.flatMap opL

theorem opsL_len (l : List Opn) : (opsL l).length = 4 * l.length := by
  induction l with
  | nil => rfl
  | cons o l ih =>
    have : opsL (o :: l) = opL o ++ opsL l := rfl
    rw [this, List.length_append, ih]
    simp [opL]; omega

theorem opsL_append (l m : List Opn) : opsL (l ++ m) = opsL l ++ opsL m := by simp [opsL]

theorem opsL_at {l : List Opn} {k : Nat} {o : Opn} (h : l[k]? = some o) (j : Nat) (hj : j < 4) : (opsL l)[k * 4 + j]? = (opL o)[j]? := by
  induction l generalizing k with
  | nil => simp at h
  | cons x l ih =>
    have e : opsL (x :: l) = opL x ++ opsL l := rfl
    match k, h with
    | 0, h =>
      obtain rfl : x = o := by simpa using h
      rw [e, List.getElem?_append_left (by simp [opL]; omega)]
      congr 1; omega
    | k + 1, h =>
      rw [e, List.getElem?_append_right (by simp [opL]; omega)]
      have := ih (by simpa using h)
      rw [← this]
      congr 1
      simp [opL]; omega

/-- All fields of the operations are integers of the machine. -/
def Small (l : List Opn) : Prop := ∀ o ∈ l, ∀ z ∈ opL o, -9223372036854775808 ≤ z ∧ z ≤ 9223372036854775807

/-- A list of operations in a row of its own reads as records of four. -/
theorem own_recs {w : World} {base : Nat} {e : TypeId} {v : Value} {l : List Opn} (h : w.ownsRow base e 4 v l.length (ints (opsL l))) (hs : Small l) : Recs w 4 v (l.map opL) := by
  rcases h.2 with ⟨rfl, h0⟩ | ⟨g, cap, cur, rfl, hb, hg, hn, hm, hz, ht⟩
  · obtain rfl : l = [] := List.eq_nil_of_length_eq_zero h0
    exact ⟨none, 0, rfl, fun h => absurd h (by simp)⟩
  · refine ⟨_, cap, by rw [List.length_map], fun _ => ⟨_, rfl, (Array.getElem?_eq_some_iff.1 hg).1, fun k zs hk => ?_⟩⟩
    rw [List.getElem?_map, Option.map_eq_some_iff] at hk
    obtain ⟨o, ho, rfl⟩ := hk
    refine ⟨rfl, hs o (List.mem_of_getElem? ho), fun j u hu => ?_⟩
    have hj : j < 4 := by have := (List.getElem?_eq_some_iff.1 hu).1; simpa [ints, opL] using this
    have hkl := (List.getElem?_eq_some_iff.1 ho).1
    have hat := opsL_at ho j hj
    have h2 : (ints (opsL l))[k * 4 + j]? = some u := by
      simp only [ints, List.getElem?_map] at hu ⊢
      rw [hat]; exact hu
    rw [← ht, List.getElem?_take, if_pos (by omega)] at h2
    rw [Addr.add_lit, Addr.add_lit, Nat.zero_add, cell_of_row w g (k * 4 + j) cur _ (0, 0) hg]
    simpa using h2

/-- Programs in the making: rows of their own. -/
structure OwnP (w : World) (base : Nat) (t e : TypeId) (v : Value) (vs : List Value) (p : List (List Opn)) : Prop where
  own : w.ownsRow base t 1 v vs.length vs
  len : vs.length = p.length
  each : ∀ (i : Nat) (u : Value) (l : List Opn), vs[i]? = some u → p[i]? = some l → w.ownsRow base e 4 u l.length (ints (opsL l))

theorem OwnP.prg {w : World} {base : Nat} {t e : TypeId} {v : Value} {vs : List Value} {p : List (List Opn)} (h : OwnP w base t e v vs p) (hs : ∀ l ∈ p, Small l) : Prg w v p := by
  by_cases h0 : 0 < vs.length
  · obtain ⟨g, c, rfl, hg, hc⟩ := own_open h.own h0
    refine ⟨_, c, by rw [h.len], fun _ => ⟨_, rfl, hg, fun k l hk => ?_⟩⟩
    have hkl := (List.getElem?_eq_some_iff.1 hk).1
    obtain ⟨u, hu⟩ : ∃ u, vs[k]? = some u := ⟨_, List.getElem?_eq_getElem (by rw [h.len]; exact hkl)⟩
    rw [Addr.add_lit, Nat.zero_add]
    exact ⟨u, hc k u hu, own_recs (h.each k u l hu hk) (hs l (List.mem_of_getElem? hk))⟩
  · obtain ⟨A, c, rfl⟩ := own_shape h.own
    refine ⟨A, c, by rw [h.len], fun h1 => ?_⟩
    rw [h.len] at h0
    exact absurd h1 h0

theorem OwnP.below {w w' : World} {base : Nat} {t e : TypeId} {v : Value} {vs : List Value} {p : List (List Opn)} (h : OwnP w base t e v vs p) (hb : Below w.heap.size w w') : OwnP w' base t e v vs p where
  own := own_only h.own (Only.of_below hb (fun _ => False)) (fun _ _ h => h.elim)
  len := h.len
  each i u l hu hl := own_only (h.each i u l hu hl) (Only.of_below hb (fun _ => False)) (fun _ _ h => h.elim)

#print axioms OwnP.prg
end Go.Proofs.Ytgljgpllooehkaa
