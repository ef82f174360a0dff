/-
  Layer 7 (litmus), no program in it: what a change of one core does to the 46 integers of a state; the shape stays.
  Conditions: those that each theorem states.
-/
import Derived.Test.YtgljgpllooehkaaLit2
namespace Go.Proofs.Ytgljgpllooehkaa

def joinL (Ls : List (List Int)) (M : List Int) : List Int := Ls.flatten ++ M

theorem stL_join (s : St) : stL s = joinL (s.cores.map coreL) s.mem := by
  unfold stL joinL
  rw [List.flatMap_def]

theorem join_set : ∀ (Ls : List (List Int)) (M : List Int) (i j : Nat) (L : List Int) (v : Int), (∀ X ∈ Ls, X.length = 14) → Ls[i]? = some L → j < 14 → (joinL Ls M).set (i * 14 + j) v = joinL (Ls.set i (L.set j v)) M
  | [], M, i, j, L, v, _, h, _ => by simp at h
  | X :: Ls, M, 0, j, L, v, h14, h, hj => by
    obtain rfl : X = L := by simpa using h
    have hX := h14 X (by simp)
    simp only [joinL, List.flatten_cons, List.set_cons_zero, List.append_assoc, Nat.zero_mul, Nat.zero_add]
    rw [List.set_append, if_pos (by omega)]
  | X :: Ls, M, i + 1, j, L, v, h14, h, hj => by
    have hX := h14 X (by simp)
    have ih := join_set Ls M i j L v (fun Y hY => h14 Y (by simp [hY])) (by simpa using h) hj
    simp only [joinL, List.flatten_cons, List.set_cons_succ, List.append_assoc] at ih ⊢
    rw [List.set_append, if_neg (by omega), hX, show (i + 1) * 14 + j - 14 = i * 14 + j by omega, ih]

def shiftC (L : List Int) : List Int := L.take 6 ++ (L.drop 8).take 6 ++ L.drop 12

theorem join_shift : ∀ (Ls : List (List Int)) (M : List Int) (i : Nat) (L : List Int), (∀ X ∈ Ls, X.length = 14) → Ls[i]? = some L → shift (i * 14) (joinL Ls M) = joinL (Ls.set i (shiftC L)) M
  | [], M, i, L, _, h => by simp at h
  | X :: Ls, M, 0, L, h14, h => by
    obtain rfl : X = L := by simpa using h
    have hX := h14 X (by simp)
    simp only [joinL, shift, shiftC, List.flatten_cons, List.set_cons_zero, List.append_assoc, Nat.zero_mul, Nat.zero_add]
    rw [List.take_append_of_le_length (by omega), List.drop_append_of_le_length (by omega), List.take_append_of_le_length (by simp [hX]), List.drop_append_of_le_length (by omega)]
  | X :: Ls, M, i + 1, L, h14, h => by
    have hX := h14 X (by simp)
    have ih := join_shift Ls M i L (fun Y hY => h14 Y (by simp [hY])) (by simpa using h)
    simp only [joinL, shift, List.flatten_cons, List.set_cons_succ, List.append_assoc] at ih ⊢
    generalize Ls.flatten ++ M = R at ih ⊢
    have t1 : (X ++ R).take ((i + 1) * 14 + 6) = X ++ R.take (i * 14 + 6) := by
      rw [List.take_append, hX, List.take_of_length_le (by omega), show (i + 1) * 14 + 6 - 14 = i * 14 + 6 by omega]
    have t2 : ∀ k, (X ++ R).drop ((i + 1) * 14 + k) = R.drop (i * 14 + k) := fun k => by
      rw [List.drop_append, hX, List.drop_of_length_le (by omega), show (i + 1) * 14 + k - 14 = i * 14 + k by omega, List.nil_append]
    rw [t1, t2, t2, List.append_assoc, ih]

theorem join_mem (Ls : List (List Int)) (M : List Int) (a : Nat) (x : Int) (hl : Ls.flatten.length = 42) : (joinL Ls M).set (42 + a) x = joinL Ls (M.set a x) := by
  unfold joinL
  rw [List.set_append, if_neg (by omega), hl, show 42 + a - 42 = a by omega]

theorem Shape.flat {s : St} (h : Shape s) : (s.cores.map coreL).flatten.length = 42 ∧ ∀ X ∈ s.cores.map coreL, X.length = 14 := by
  obtain ⟨a, b, c, e⟩ := three h.len
  have ha := coreL_len (h.core 0 a (by rw [e]; rfl))
  have hb := coreL_len (h.core 1 b (by rw [e]; rfl))
  have hc := coreL_len (h.core 2 c (by rw [e]; rfl))
  rw [e]
  refine ⟨by simp [ha, hb, hc], fun X hX => ?_⟩
  simp only [List.map_cons, List.map_nil, List.mem_cons, List.not_mem_nil, or_false] at hX
  rcases hX with rfl | rfl | rfl <;> assumption

/-- One core's cells changed. -/
theorem stL_set {s : St} (h : Shape s) {i j : Nat} {c d : Core} {v : Int} (hc : s.cores[i]? = some c) (hj : j < 14) (hd : coreL d = (coreL c).set j v) : (stL s).set (i * 14 + j) v = stL ⟨s.cores.set i d, s.mem⟩ := by
  rw [stL_join, stL_join, join_set _ _ i j (coreL c) v h.flat.2 (by simp [hc]) hj]
  simp only [List.map_set, hd]

theorem stL_wrt {s : St} (h : Shape s) (p : Int × Int) : (stL s).set (42 + p.1.toNat) p.2 = stL ⟨s.cores, wrt s.mem p⟩ := by
  rw [stL_join, stL_join, join_mem _ _ _ _ h.flat.1]
  rfl

theorem len_cases {α : Type} {l : List α} (h : l.length ≤ 3) : l = [] ∨ (∃ a, l = [a]) ∨ (∃ a b, l = [a, b]) ∨ ∃ a b c, l = [a, b, c] := by
  match l, h with
  | [], _ => exact .inl rfl
  | [a], _ => exact .inr (.inl ⟨a, rfl⟩)
  | [a, b], _ => exact .inr (.inr (.inl ⟨a, b, rfl⟩))
  | [a, b, c], _ => exact .inr (.inr (.inr ⟨a, b, c, rfl⟩))

theorem coreL_next {c : Core} : coreL { c with next := c.next + 1 } = (coreL c).set 0 ((c.next : Int) + 1) := rfl

theorem coreL_reg {c : Core} (h : CoreOk c) {r : Nat} (hr : r < 4) (x : Int) : coreL { c with regs := c.regs.set r x } = (coreL c).set (1 + r) x := by
  unfold coreL
  rw [Nat.add_comm, List.set_cons_succ, List.set_append, if_pos (by rw [h.regs]; exact hr)]

theorem coreL_push {c : Core} (h : CoreOk c) (hr : c.buf.length < 4) (a x : Int) :
    coreL { c with buf := c.buf ++ [(a, x)] } = (((coreL c).set (6 + c.buf.length * 2) a).set (6 + c.buf.length * 2 + 1) x).set 5 ((c.buf.length : Int) + 1) := by
  obtain ⟨r0, r1, r2, r3, er⟩ := four h.regs
  obtain ⟨n, regs, buf⟩ := c
  simp only at er hr ⊢
  subst er
  rcases len_cases (l := buf) (by omega) with rfl | ⟨p, rfl⟩ | ⟨p, q, rfl⟩ | ⟨p, q, t, rfl⟩ <;> rfl

theorem coreL_drain {c : Core} (h : CoreOk c) {p : Int × Int} {q : List (Int × Int)} (hb : c.buf = p :: q) :
    coreL { c with buf := q } = (((shiftC (coreL c)).set 5 (q.length : Int)).set (6 + q.length * 2) 0).set (6 + q.length * 2 + 1) 0 := by
  obtain ⟨r0, r1, r2, r3, er⟩ := four h.regs
  have hr := h.room
  obtain ⟨n, regs, buf⟩ := c
  simp only at er hr hb ⊢
  subst er hb
  rcases len_cases (l := q) (by simp at hr; omega) with rfl | ⟨p, rfl⟩ | ⟨p, q, rfl⟩ | ⟨p, q, t, rfl⟩ <;> rfl

theorem core_lt {s : St} (h : Shape s) {i : Nat} {c : Core} (hc : s.cores[i]? = some c) : i < 3 := by
  have := (List.getElem?_eq_some_iff.1 hc).1
  rw [h.len] at this; exact this

theorem shiftC_len {L : List Int} (h : L.length = 14) : (shiftC L).length = 14 := by simp [shiftC, h]

/-- The 46 integers behind a drain. -/
theorem stL_drain {s : St} (h : Shape s) {i : Nat} {c : Core} {p : Int × Int} {q : List (Int × Int)} (hc : s.cores[i]? = some c) (hb : c.buf = p :: q) : stL (drainS i s) = drainL (i * 14) q.length p.1 p.2 (stL s) := by
  have hok := h.core i c hc
  have hL := coreL_len hok
  have hq : q.length < 4 := by have := hok.room; rw [hb] at this; simp at this; omega
  have hi := core_lt h hc
  have h14 := h.flat.2
  have e1 : drainS i s = ⟨s.cores.set i { c with buf := q }, wrt s.mem p⟩ := by simp [drainS, hc, hb]
  have hlen : (s.cores.map coreL).length = 3 := by simp [h.len]
  have k1 : ∀ X ∈ (s.cores.map coreL).set i (shiftC (coreL c)), X.length = 14 := by
    intro X hX
    rcases List.mem_or_eq_of_mem_set hX with hX | rfl
    · exact h14 X hX
    · exact shiftC_len hL
  have k2 : ∀ (L : List Int), L.length = 14 → ∀ X ∈ (s.cores.map coreL).set i L, X.length = 14 := by
    intro L hL X hX
    rcases List.mem_or_eq_of_mem_set hX with hX | rfl
    · exact h14 X hX
    · exact hL
  have at_ : ∀ L : List Int, ((s.cores.map coreL).set i L)[i]? = some L := fun L => List.getElem?_set_self (by omega)
  unfold drainL
  rw [stL_wrt h p, stL_join ⟨s.cores, wrt s.mem p⟩, join_shift _ _ i (coreL c) h14 (by simp [hc]),
    join_set _ _ i 5 _ _ (k2 _ (shiftC_len hL)) (at_ _) (by omega), List.set_set, Nat.add_assoc (i * 14) 6,
    join_set _ _ i (6 + q.length * 2) _ _ (k2 _ (by simp [shiftC_len hL])) (at_ _) (by omega), List.set_set, Nat.add_assoc (i * 14) (6 + q.length * 2) 1,
    join_set _ _ i (6 + q.length * 2 + 1) _ _ (k2 _ (by simp [shiftC_len hL])) (at_ _) (by omega), List.set_set, ← coreL_drain hok hb, e1, stL_join]
  simp only [List.map_set]

theorem Shape.setCore {s : St} (h : Shape s) {i : Nat} {d : Core} (hd : CoreOk d) : Shape ⟨s.cores.set i d, s.mem⟩ where
  len := by rw [List.length_set]; exact h.len
  mem := h.mem
  memd := h.memd
  core j c hc := by
    simp only [List.getElem?_set] at hc
    split at hc
    · split at hc
      · injection hc with e; subst e; exact hd
      · cases hc
    · exact h.core j c hc

theorem wrt_len (m : List Int) (p : Int × Int) : (wrt m p).length = m.length := by simp [wrt]

theorem wrt_digit {m : List Int} {p : Int × Int} (h : ∀ x ∈ m, digit x) (hp : digit p.2) : ∀ x ∈ wrt m p, digit x := by
  intro x hx
  rcases List.mem_or_eq_of_mem_set hx with hx | rfl
  · exact h x hx
  · exact hp

theorem Shape.write {s : St} (h : Shape s) {p : Int × Int} (hp : digit p.2) : Shape ⟨s.cores, wrt s.mem p⟩ where
  len := h.len
  mem := by rw [wrt_len]; exact h.mem
  memd := wrt_digit h.memd hp
  core := h.core

theorem CoreOk.tail {c : Core} (h : CoreOk c) {p : Int × Int} {q : List (Int × Int)} (hb : c.buf = p :: q) : CoreOk { c with buf := q } where
  next := h.next
  regs := h.regs
  regd := h.regd
  room := by have := h.room; rw [hb] at this; simp at this ⊢; omega
  bufd x hx := h.bufd x (by rw [hb]; exact List.mem_cons_of_mem _ hx)

theorem Shape.drain {s : St} (h : Shape s) (i : Nat) : Shape (drainS i s) := by
  unfold drainS
  split
  · exact h
  · rename_i c hc
    split
    · exact h
    · rename_i p q hb
      have hok := h.core i c hc
      have := (h.write (p := p) ((hok.bufd p (by rw [hb]; simp)).2.2)).setCore (i := i) (hok.tail hb)
      exact this

#print axioms stL_drain
#print axioms Shape.drain
end Go.Proofs.Ytgljgpllooehkaa
