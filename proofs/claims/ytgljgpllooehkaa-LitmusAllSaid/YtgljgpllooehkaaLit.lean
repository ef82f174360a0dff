/-
  Layer 7 (litmus), no program in it: states of executions, their steps, what can be reached, and how a state lies in memory as 46 integers.
  Conditions: those that each theorem states.
-/
import Derived.Test.YtgljgpllooehkaaMem
namespace Go.Proofs.Ytgljgpllooehkaa

/-- A core of an execution: the position of its next operation, its registers, its pending stores (the oldest first). -/
structure Core where
  next : Nat
  regs : List Int
  buf : List (Int × Int)

/-- Where an execution stands. -/
structure St where
  cores : List Core
  mem : List Int

instance : DecidableEq Core := fun a b =>
  decidable_of_iff (a.next = b.next ∧ a.regs = b.regs ∧ a.buf = b.buf) ⟨fun h => by cases a; cases b; simp_all, fun h => by subst h; exact ⟨rfl, rfl, rfl⟩⟩

instance : DecidableEq St := fun a b =>
  decidable_of_iff (a.cores = b.cores ∧ a.mem = b.mem) ⟨fun h => by cases a; cases b; simp_all, fun h => by subst h; exact ⟨rfl, rfl⟩⟩

/-- An operation. -/
structure Opn where
  kind : Int
  addr : Int
  word : Int
  reg : Int

def core0 : Core := ⟨0, [0, 0, 0, 0], []⟩
def st0 : St := ⟨[core0, core0, core0], [0, 0, 0, 0]⟩

/-- A word written to the memory. -/
def wrt (m : List Int) (p : Int × Int) : List Int := m.set p.1.toNat p.2

/-- What a core sees at an address. -/
def sees (q : List (Int × Int)) (m : List Int) (a : Int) : Int := q.foldl (fun x p => if p.1 = a then p.2 else x) (m.getD a.toNat 0)

/-- The oldest store of core i is drained (if there is one). -/
def drainS (i : Nat) (s : St) : St :=
  match s.cores[i]? with
  | none => s
  | some c =>
    match c.buf with
    | [] => s
    | p :: q => ⟨s.cores.set i { c with buf := q }, wrt s.mem p⟩

/-- All stores of a core are drained. -/
def flushS (i : Nat) (s : St) : St :=
  match s.cores[i]? with
  | none => s
  | some c => ⟨s.cores.set i { c with buf := [] }, c.buf.foldl wrt s.mem⟩

/-- One more operation has been executed. -/
def nextS (i : Nat) (s : St) : St :=
  match s.cores[i]? with
  | none => s
  | some c => ⟨s.cores.set i { c with next := c.next + 1 }, s.mem⟩

/-- A register is set. -/
def regS (i : Nat) (r x : Int) (s : St) : St :=
  match s.cores[i]? with
  | none => s
  | some c => ⟨s.cores.set i { c with regs := c.regs.set r.toNat x }, s.mem⟩

/-- A store is appended to the buffer of a core. -/
def pushS (i : Nat) (p : Int × Int) (s : St) : St :=
  match s.cores[i]? with
  | none => s
  | some c => ⟨s.cores.set i { c with buf := c.buf ++ [p] }, s.mem⟩

def bufOf (i : Nat) (s : St) : List (Int × Int) := (s.cores[i]?.map (·.buf)).getD []
def nextOf (i : Nat) (s : St) : Nat := (s.cores[i]?.map (·.next)).getD 0

/-- A store by core i. -/
def storeS (buf i : Nat) (p : Int × Int) (s : St) : St :=
  if buf = 0 then ⟨s.cores, wrt s.mem p⟩
  else if (bufOf i s).length = buf then pushS i p (drainS i s) else pushS i p s

/-- The next operation of core i is executed. -/
def execS (buf i : Nat) (o : Opn) (s : St) : St :=
  if o.kind = 1 then regS i o.reg (sees (bufOf i s) s.mem o.addr) (nextS i s)
  else if o.kind = 2 then storeS buf i (o.addr, o.word) (nextS i s)
  else if o.kind = 3 then flushS i (nextS i s)
  else if o.kind = 4 then
    let t := flushS i (nextS i s)
    let u := regS i o.reg (t.mem.getD o.addr.toNat 0) t
    ⟨u.cores, wrt u.mem (o.addr, o.word)⟩
  else nextS i s

/-- The states to which a step of core i leads. -/
def stepsAt (p : List (List Opn)) (buf : Nat) (s : St) (i : Nat) : List St :=
  (match (p.getD i [])[nextOf i s]? with
   | some o => [execS buf i o s]
   | none => []) ++ (if bufOf i s = [] then [] else [drainS i s])

def stepsS (p : List (List Opn)) (buf : Nat) (s : St) : List St := (List.range p.length).flatMap (stepsAt p buf s)

/-- What can be reached. -/
inductive Reach (p : List (List Opn)) (buf : Nat) : St → Prop
  | start : Reach p buf st0
  | step {s t : St} : Reach p buf s → t ∈ stepsS p buf s → Reach p buf t

def outS (n : Nat) (s : St) : List Int := ((s.cores.take n).flatMap (·.regs)) ++ s.mem

/-- An operation is valid. -/
def okOp (o : Opn) : Prop := 1 ≤ o.kind ∧ o.kind ≤ 4 ∧ 0 ≤ o.addr ∧ o.addr ≤ 3 ∧ 0 ≤ o.reg ∧ o.reg ≤ 3 ∧ 0 ≤ o.word ∧ o.word ≤ 9

/-- Programs are valid. -/
structure RightS (p : List (List Opn)) (buf : Int) : Prop where
  lo : 1 ≤ p.length
  hi : p.length ≤ 3
  b0 : 0 ≤ buf
  b4 : buf ≤ 4
  each : ∀ l ∈ p, l.length ≤ 4 ∧ ∀ o ∈ l, okOp o
  all : (p.map (·.length)).sum ≤ 6

def digit (x : Int) : Prop := 0 ≤ x ∧ x ≤ 9

/-- The shape of a core. -/
structure CoreOk (c : Core) : Prop where
  next : c.next ≤ 5
  regs : c.regs.length = 4
  regd : ∀ x ∈ c.regs, digit x
  room : c.buf.length ≤ 4
  bufd : ∀ q ∈ c.buf, 0 ≤ q.1 ∧ q.1 ≤ 3 ∧ digit q.2

/-- The shape of a state. -/
structure Shape (s : St) : Prop where
  len : s.cores.length = 3
  mem : s.mem.length = 4
  memd : ∀ x ∈ s.mem, digit x
  core : ∀ (i : Nat) (c : Core), s.cores[i]? = some c → CoreOk c

/-- What holds of every state that can be reached. -/
structure StOk (p : List (List Opn)) (buf : Nat) (s : St) : Prop where
  sh : Shape s
  next : ∀ (i : Nat) (c : Core), s.cores[i]? = some c → c.next ≤ (p.getD i []).length
  room : ∀ (i : Nat) (c : Core), s.cores[i]? = some c → c.buf.length ≤ buf
  rest : ∀ i, p.length ≤ i → i < 3 → s.cores[i]? = some core0

/-! How a state lies in memory. -/

def pairL (q : List (Int × Int)) : List Int := q.flatMap fun p => [p.1, p.2]
def coreL (c : Core) : List Int := (c.next : Int) :: (c.regs ++ ((c.buf.length : Int) :: (pairL c.buf ++ List.replicate (8 - 2 * c.buf.length) 0)))
def stL (s : St) : List Int := s.cores.flatMap coreL ++ s.mem

theorem pairL_len (q : List (Int × Int)) : (pairL q).length = 2 * q.length := by
  induction q with
  | nil => rfl
  | cons p q ih => simp only [pairL, List.flatMap_cons, List.length_append, List.length_cons, List.length_nil] at ih ⊢; omega

theorem coreL_len {c : Core} (h : CoreOk c) : (coreL c).length = 14 := by
  have h1 := h.regs
  have h2 := h.room
  simp only [coreL, List.length_cons, List.length_append, pairL_len, List.length_replicate, h1]
  omega

theorem three {α : Type} {l : List α} (h : l.length = 3) : ∃ a b c, l = [a, b, c] := by
  match l, h with
  | [a, b, c], _ => exact ⟨a, b, c, rfl⟩

theorem four {α : Type} {l : List α} (h : l.length = 4) : ∃ a b c d, l = [a, b, c, d] := by
  match l, h with
  | [a, b, c, d], _ => exact ⟨a, b, c, d, rfl⟩

theorem stL_len {s : St} (h : Shape s) : (stL s).length = 46 := by
  obtain ⟨a, b, c, e⟩ := three h.len
  have ha := coreL_len (h.core 0 a (by rw [e]; rfl))
  have hb := coreL_len (h.core 1 b (by rw [e]; rfl))
  have hc := coreL_len (h.core 2 c (by rw [e]; rfl))
  simp only [stL, e, List.flatMap_cons, List.flatMap_nil, List.length_append, List.length_nil, ha, hb, hc, h.mem]

/-- The cells of core i. -/
theorem stL_core {s : St} (h : Shape s) {i : Nat} {c : Core} (hc : s.cores[i]? = some c) {j : Nat} (hj : j < 14) : (stL s)[i * 14 + j]? = (coreL c)[j]? := by
  obtain ⟨a, b, d, e⟩ := three h.len
  have ha := coreL_len (h.core 0 a (by rw [e]; rfl))
  have hb := coreL_len (h.core 1 b (by rw [e]; rfl))
  have hd := coreL_len (h.core 2 d (by rw [e]; rfl))
  have hi : i < 3 := by have := (List.getElem?_eq_some_iff.1 hc).1; rw [h.len] at this; exact this
  simp only [stL, e, List.flatMap_cons, List.flatMap_nil, List.append_nil, List.append_assoc]
  rw [e] at hc
  match i, hi with
  | 0, _ =>
    obtain rfl : a = c := by simpa using hc
    rw [List.getElem?_append_left (by omega)]; simp
  | 1, _ =>
    obtain rfl : b = c := by simpa using hc
    rw [List.getElem?_append_right (by omega), ha, List.getElem?_append_left (by omega)]
    congr 1; omega
  | 2, _ =>
    obtain rfl : d = c := by simpa using hc
    rw [List.getElem?_append_right (by omega), ha, List.getElem?_append_right (by omega), hb, List.getElem?_append_left (by omega)]
    congr 1; omega

theorem stL_mem {s : St} (h : Shape s) {j : Nat} : (stL s)[42 + j]? = s.mem[j]? := by
  obtain ⟨a, b, d, e⟩ := three h.len
  have ha := coreL_len (h.core 0 a (by rw [e]; rfl))
  have hb := coreL_len (h.core 1 b (by rw [e]; rfl))
  have hd := coreL_len (h.core 2 d (by rw [e]; rfl))
  have hl : (s.cores.flatMap coreL).length = 42 := by
    simp only [e, List.flatMap_cons, List.flatMap_nil, List.length_append, List.length_nil, ha, hb, hd]
  unfold stL
  rw [List.getElem?_append_right (by omega), hl]
  congr 1; omega

theorem next_at (c : Core) : (coreL c)[0]? = some (c.next : Int) := rfl
theorem reg_at {c : Core} (h : CoreOk c) {r : Nat} (hr : r < 4) : (coreL c)[1 + r]? = c.regs[r]? := by
  unfold coreL
  rw [Nat.add_comm, List.getElem?_cons_succ, List.getElem?_append_left (by rw [h.regs]; exact hr)]
theorem count_at {c : Core} (h : CoreOk c) : (coreL c)[5]? = some (c.buf.length : Int) := by
  unfold coreL
  rw [List.getElem?_cons_succ, List.getElem?_append_right (by rw [h.regs]; omega), h.regs]
  rfl
theorem pair_at : ∀ {q : List (Int × Int)} {k : Nat} {p : Int × Int}, q[k]? = some p → (pairL q)[2 * k]? = some p.1 ∧ (pairL q)[2 * k + 1]? = some p.2
  | [], k, p, h => by simp at h
  | x :: q, 0, p, h => by
    obtain rfl : x = p := by simpa using h
    exact ⟨rfl, rfl⟩
  | x :: q, k + 1, p, h => by
    have h1 : q[k]? = some p := by simpa using h
    obtain ⟨h2, h3⟩ := pair_at h1
    exact ⟨by show (x.1 :: x.2 :: pairL q)[2 * k + 1 + 1]? = _; simpa using h2, by show (x.1 :: x.2 :: pairL q)[2 * k + 1 + 1 + 1]? = _; simpa using h3⟩
theorem buf_at {c : Core} (h : CoreOk c) {k : Nat} {p : Int × Int} (hk : c.buf[k]? = some p) : (coreL c)[6 + 2 * k]? = some p.1 ∧ (coreL c)[6 + 2 * k + 1]? = some p.2 := by
  obtain ⟨h1, h2⟩ := pair_at hk
  have hlt := (List.getElem?_eq_some_iff.1 hk).1
  unfold coreL
  constructor
  · rw [show 6 + 2 * k = (2 * k + 5) + 1 by omega, List.getElem?_cons_succ, List.getElem?_append_right (by rw [h.regs]; omega), h.regs, show 2 * k + 5 - 4 = 2 * k + 1 by omega, List.getElem?_cons_succ, List.getElem?_append_left (by rw [pairL_len]; omega)]
    exact h1
  · rw [show 6 + 2 * k + 1 = (2 * k + 6) + 1 by omega, List.getElem?_cons_succ, List.getElem?_append_right (by rw [h.regs]; omega), h.regs, show 2 * k + 6 - 4 = 2 * k + 1 + 1 by omega, List.getElem?_cons_succ, List.getElem?_append_left (by rw [pairL_len]; omega)]
    exact h2

#print axioms stL_core
#print axioms buf_at
end Go.Proofs.Ytgljgpllooehkaa
