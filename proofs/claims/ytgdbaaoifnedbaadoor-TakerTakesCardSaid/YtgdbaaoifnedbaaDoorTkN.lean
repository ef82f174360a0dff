/-
  Layer 17 (taker): the numbers of a taker: what always holds of them, and how many accesses a call still makes.
  Conditions: those that each theorem states.
-/
import Derived.Test.YtgdbaaoifnedbaaDoorTk4
namespace Go.Proofs.YtgdbaaoifnedbaaDoor
open Go.ChangeShapes Go.WideShapes Go.ChangeAt Go.RowKit

/-- What always holds of a taker's numbers. -/
structure Ok17 (T : Tk) : Prop where
  ins : T.ins = false
  B : 0 ≤ T.B ∧ T.B ≤ 65535
  R : okRing (T.R : Int)
  st : T.st ≤ 14
  head : 0 ≤ T.head ∧ T.head ≤ 65535
  used : 0 ≤ T.used ∧ T.used ≤ 65535
  tab : T.tab.length = T.R
  slot : 0 ≤ T.slot ∧ T.slot < (T.R : Int)
  load : T.load.length ≤ 8
  word : T.st = 9 → (T.load.length : Int) < T.cnt ∧ T.cnt ≤ 8
  gl : T.gl.length ≤ 8

theorem Ok17.R64 {T : Tk} (h : Ok17 T) : 2 ≤ T.R ∧ T.R ≤ 64 := by have := h.R.bd; omega
theorem Ok17.hs {T : Tk} (h : Ok17 T) : (hs17 T).length ≤ T.R := by rw [← h.tab]; exact onL15_len _ _
theorem Ok17.acc {T : Tk} (h : Ok17 T) : Acc17 T :=
  ⟨h.ins, h.B, by have := h.R64; omega, h.head, h.used, h.load⟩
theorem Ok17.fit {T : Tk} (h : Ok17 T) (h0 : T.st ≠ 0) : Fit17 T := by
  have h1 := h.hs
  have h2 := h.R64
  exact ⟨⟨by omega, h.st⟩, h2.2, by omega, by have := h.load; omega⟩

theorem ok17_new {B self peer own : Int} {R : Nat} (h : ok17 B (R : Int) self peer own) : Ok17 (new17 B R peer own) :=
  ⟨rfl, ⟨h.2.1.1, by have := h.2.1.2; show B ≤ 65535; omega⟩, h.1, by show 0 ≤ 14; omega, by show (0 : Int) ≤ 0 ∧ (0 : Int) ≤ 65535; omega, by show (0 : Int) ≤ 0 ∧ (0 : Int) ≤ 65535; omega, by show (new15 R).length = R; simp [new15], by show (0 : Int) ≤ 0 ∧ (0 : Int) < (R : Int); have := h.1.bd; omega, by show 0 ≤ 8; omega, fun h => absurd h (by show ¬ (0 = 9); omega), by show 0 ≤ 8; omega⟩

theorem offL15_len (l : List (Int × Bool)) (k : Nat) : (offL15 l k).length = l.length := by unfold offL15; split <;> simp
theorem dropL15_len (l : List (Int × Bool)) (h : Int) : (dropL15 l h).length = l.length := by unfold dropL15; split; exact offL15_len _ _; rfl
theorem giveL15_len (l : List (Int × Bool)) (i : Int) : (giveL15 l i).length = l.length := by unfold giveL15; split <;> simp

theorem ok17_begin {T : Tk} (h : Ok17 T) (rel : Bool) (s : Int) (hs : 0 ≤ s ∧ s < (T.R : Int)) : Ok17 (begin17 T rel s) :=
  ⟨h.ins, h.B, h.R, by show 1 ≤ 14; omega, h.head, h.used, h.tab, hs, by show 0 ≤ 8; omega, fun h => absurd h (by show ¬ (1 = 9); omega), by show 0 ≤ 8; omega⟩
theorem Ok17.pos {T : Tk} (h : Ok17 T) : 0 ≤ (0 : Int) ∧ (0 : Int) < (T.R : Int) := by have := h.R64; omega
theorem Ok17.withTab {T : Tk} (h : Ok17 T) {l : List (Int × Bool)} (hl : l.length = T.tab.length) : Ok17 { T with tab := l } :=
  ⟨h.ins, h.B, h.R, h.st, h.head, h.used, hl.trans h.tab, h.slot, h.load, h.word, h.gl⟩
theorem ok17_rec {T : Tk} (h : Ok17 T) : Ok17 (recT17 T) := by
  unfold recT17
  split
  · exact ok17_begin h _ _ h.pos
  · exact h
theorem slotV15_bd {l : List (Int × Bool)} {h : Int} (hl : 0 < l.length) : 0 ≤ slotV15 l h ∧ slotV15 l h < (l.length : Int) := by
  unfold slotV15
  cases hs : slotO15 l h with
  | none => simp; omega
  | some k =>
    obtain ⟨e, hk, _⟩ := slotO15_is hs
    have := lt_of_at hk
    simp
    omega
theorem ok17_rel {T : Tk} (h : Ok17 T) (x : Int) : Ok17 (relT17 T x) := by
  unfold relT17
  split
  · refine ok17_begin (h.withTab (dropL15_len _ _)) _ _ ?_
    have := slotV15_bd (l := T.tab) (h := x) (by rw [h.tab]; have := h.R64; omega)
    rw [h.tab] at this
    exact this
  · exact h
theorem ok17_idle {T : Tk} (h : Ok17 T) : Ok17 (idle17 T) :=
  ⟨h.ins, h.B, h.R, by show 0 ≤ 14; omega, h.head, h.used, h.tab, h.pos, by show 0 ≤ 8; omega, fun h => absurd h (by show ¬ (0 = 9); omega), h.gl⟩
/-- A taker in another state. -/
theorem ok17_st {T : Tk} (h : Ok17 T) (n : Nat) (hn : n ≤ 14) (h9 : n ≠ 9) : Ok17 { T with st := n } :=
  ⟨h.ins, h.B, h.R, hn, h.head, h.used, h.tab, h.slot, h.load, fun h => absurd h h9, h.gl⟩
theorem ok17_res {T : Tk} (h : Ok17 T) (n : Int) : Ok17 { T with res := n } :=
  ⟨h.ins, h.B, h.R, h.st, h.head, h.used, h.tab, h.slot, h.load, h.word, h.gl⟩
theorem ok17_fin {T : Tk} (h : Ok17 T) (n : Int) : Ok17 (fin17 T n) := ok17_res (ok17_st h 14 (by omega) (by omega)) n
theorem ok17_wor {T : Tk} (h : Ok17 { T with st := 8 }) (hc : T.cnt ≤ 8) : Ok17 (wor17 T) := by
  unfold wor17
  split
  · exact ⟨h.ins, h.B, h.R, by show 9 ≤ 14; omega, h.head, h.used, h.tab, h.slot, h.load, fun _ => ⟨by assumption, hc⟩, h.gl⟩
  · exact ok17_st h 14 (by omega) (by omega)

/-- What follows from an access keeps all that. -/
theorem ok17_aft {T : Tk} (h : Ok17 T) (x : Int) : Ok17 (aft17 T x).1 := by
  have h14 := h.st
  unfold aft17
  split
  · have hs : askS17 T x ≤ 14 ∧ askS17 T x ≠ 9 := by unfold askS17; split; omega; split; split <;> omega; omega
    have h1 : Ok17 (askT17 T x) := by
      unfold askT17
      split
      · exact ⟨h.ins, h.B, h.R, h.st, h.head, h.used, h.tab, h.slot, h.load, h.word, h.gl⟩
      · exact h
    exact ok17_st h1 _ hs.1 hs.2
  · split
    · refine ok17_idle ⟨h.ins, h.B, h.R, h.st, by show (0 : Int) ≤ 0 ∧ (0 : Int) ≤ 65535; omega, by show (0 : Int) ≤ 0 ∧ (0 : Int) ≤ 65535; omega, ?_, h.slot, h.load, h.word, h.gl⟩
      show (clearL15 T.tab).length = T.R
      rw [clearL15_len]
      exact h.tab
    · split
      · split
        · have := ok17_st h 6 (by omega) (by omega)
          exact ⟨this.ins, this.B, this.R, this.st, this.head, this.used, this.tab, this.slot, this.load, this.word, this.gl⟩
        · exact ok17_idle h
      · split
        · split
          · exact ok17_st (ok17_res h 0) 7 (by omega) (by omega)
          · exact ok17_fin h _
        · split
          · split
            · rename_i hx
              have := ok17_st h 8 (by omega) (by omega)
              exact ⟨this.ins, this.B, this.R, this.st, this.head, this.used, this.tab, hx.1, this.load, this.word, this.gl⟩
            · exact ok17_fin h 10
          · split
            · split
              · exact ok17_fin h 10
              · have := ok17_st h 8 (by omega) (by omega)
                exact ok17_wor (T := { T with cnt := x }) ⟨this.ins, this.B, this.R, this.st, this.head, this.used, this.tab, this.slot, this.load, fun h => absurd h (by show ¬ (8 = 9); omega), this.gl⟩ (by show x ≤ 8; omega)
            · split
              · rename_i e9
                have hw := h.word e9
                have := ok17_st h 8 (by omega) (by omega)
                exact ok17_wor (T := { T with load := T.load ++ [x] }) ⟨this.ins, this.B, this.R, this.st, this.head, this.used, this.tab, this.slot, by show (T.load ++ [x]).length ≤ 8; simp; omega, fun h => absurd h (by show ¬ (8 = 9); omega), this.gl⟩ hw.2
              · split
                · have hj : Ok17 (judT17 T x) := by
                    unfold judT17
                    split
                    · split
                      · exact ⟨h.ins, h.B, h.R, h.st, h.head, addW_bd T.used 1, h.tab, h.slot, h.load, h.word, h.gl⟩
                      · exact ⟨h.ins, h.B, h.R, h.st, addW_bd T.head 1, h.used, (giveL15_len _ _).trans h.tab, h.slot, h.load, h.word, h.load⟩
                    · exact h
                  exact ok17_idle hj
                · exact ok17_st h _ (by omega) (by omega)

/-- How many accesses a call still makes at most. -/
def pot17 (T : Tk) : Nat :=
  if T.st = 0 then 0 else if T.st = 1 then 14 else if T.st ≤ 4 then 5 - T.st else if T.st ≤ 8 then 18 - T.st
  else if T.st = 9 then (T.cnt - (T.load.length : Int)).toNat + 1 else 15 - T.st

theorem pot17_wor {T : Tk} (hc : T.cnt ≤ 8) : 1 ≤ pot17 (wor17 T) ∧ pot17 (wor17 T) ≤ 9 ∧ pot17 (wor17 T) ≤ (T.cnt - (T.load.length : Int)).toNat + 1 ∧ (wor17 T).st ≠ 0 := by
  unfold wor17
  split
  · simp [pot17]; omega
  · simp [pot17]
theorem pot17_fin (T : Tk) (n : Int) : pot17 (fin17 T n) = 1 ∧ (fin17 T n).st ≠ 0 := by simp [pot17, fin17]

/-- Each access leaves fewer of them; the call has ended just if none is left. -/
theorem pot17_aft {T : Tk} (h : Ok17 T) (h0 : T.st ≠ 0) (x : Int) :
    pot17 (aft17 T x).1 + 1 ≤ pot17 T ∧ ((aft17 T x).2 = none → 1 ≤ pot17 (aft17 T x).1 ∧ (aft17 T x).1.st ≠ 0) ∧ ((aft17 T x).2 ≠ none → (aft17 T x).1.st = 0) := by
  have h14 := h.st
  unfold aft17
  split
  · rename_i e
    have e1 : pot17 T = 14 := by simp [pot17, e]
    rw [e1]
    have hs : askS17 T x = 2 ∨ askS17 T x = 5 ∨ askS17 T x = 6 ∨ askS17 T x = 10 := by unfold askS17; split; exact .inl rfl; split; split; exact .inr (.inr (.inr rfl)); exact .inr (.inr (.inl rfl)); exact .inr (.inl rfl)
    rcases hs with hs | hs | hs | hs <;> simp [pot17, hs]
  · split
    · rename_i e
      simp [pot17, idle17, e]
    · split
      · rename_i e
        split <;> simp [pot17, idle17, e]
      · split
        · rename_i e
          split <;> simp [pot17, fin17, e]
        · split
          · rename_i e
            split <;> simp [pot17, fin17, e]
          · split
            · rename_i e
              have e1 : pot17 T = 10 := by simp [pot17, e]
              rw [e1]
              split
              · obtain ⟨f1, f2⟩ := pot17_fin T 10
                exact ⟨by rw [f1]; omega, fun _ => ⟨by rw [f1]; omega, f2⟩, fun h => absurd rfl h⟩
              · obtain ⟨f1, f2, f3, f4⟩ := pot17_wor (T := { T with cnt := x }) (by show x ≤ 8; omega)
                exact ⟨by show pot17 (wor17 { T with cnt := x }) + 1 ≤ 10; omega, fun _ => ⟨f1, f4⟩, fun h => absurd rfl h⟩
            · split
              · rename_i e
                have hw := h.word e
                have e1 : pot17 T = (T.cnt - (T.load.length : Int)).toNat + 1 := by simp [pot17, e]
                rw [e1]
                obtain ⟨f1, f2, f3, f4⟩ := pot17_wor (T := { T with load := T.load ++ [x] }) hw.2
                have f5 : pot17 (wor17 { T with load := T.load ++ [x] }) ≤ (T.cnt - ((T.load ++ [x]).length : Int)).toNat + 1 := f3
                rw [List.length_append, List.length_singleton] at f5
                exact ⟨by show pot17 (wor17 { T with load := T.load ++ [x] }) + 1 ≤ _; omega, fun _ => ⟨f1, f4⟩, fun h => absurd rfl h⟩
              · split
                · rename_i e
                  simp [pot17, idle17, e]
                · have : T.st = 2 ∨ T.st = 3 ∨ T.st = 10 ∨ T.st = 11 ∨ T.st = 12 ∨ T.st = 13 := by omega
                  rcases this with e | e | e | e | e | e <;> simp [pot17, e]

theorem pot17_rec {T : Tk} (he : recE17 T = 0) : pot17 (recT17 T) = 14 ∧ (recT17 T).st = 1 := by
  unfold recE17 at he
  unfold recT17
  split at he
  · rename_i h
    rw [if_pos h]
    simp [pot17, begin17]
  · cases he
theorem pot17_rel {T : Tk} {x : Int} (he : relE17 T x = 0) : pot17 (relT17 T x) = 14 ∧ (relT17 T x).st = 1 := by
  unfold relE17 at he
  unfold relT17
  split at he
  · rename_i h
    rw [if_pos ⟨h, he⟩]
    simp [pot17, begin17]
  · cases he
theorem rec17_no {T : Tk} (he : recE17 T ≠ 0) : recT17 T = T := by
  unfold recE17 at he
  unfold recT17
  split at he
  · exact absurd rfl he
  · rename_i h
    rw [if_neg h]
theorem rel17_no {T : Tk} {x : Int} (he : relE17 T x ≠ 0) : relT17 T x = T := by
  unfold relE17 at he
  unfold relT17
  split at he
  · exact if_neg (fun h => he h.2)
  · rename_i h
    exact if_neg (fun k => h k.1)

/-- The parts that never change. -/
def Same17 (T T' : Tk) : Prop := T'.R = T.R ∧ T'.B = T.B ∧ T'.peer = T.peer ∧ T'.own = T.own
theorem Same17.trans {T T1 T2 : Tk} (h : Same17 T T1) (k : Same17 T1 T2) : Same17 T T2 := ⟨k.1.trans h.1, k.2.1.trans h.2.1, k.2.2.1.trans h.2.2.1, k.2.2.2.trans h.2.2.2⟩
theorem same17_rec (T : Tk) : Same17 T (recT17 T) := by unfold recT17; split <;> exact ⟨rfl, rfl, rfl, rfl⟩
theorem same17_rel (T : Tk) (x : Int) : Same17 T (relT17 T x) := by unfold relT17; split <;> exact ⟨rfl, rfl, rfl, rfl⟩
theorem same17_wor (T : Tk) : Same17 T (wor17 T) := by unfold wor17; split <;> exact ⟨rfl, rfl, rfl, rfl⟩
theorem same17_jud (T : Tk) (x : Int) : Same17 T (judT17 T x) := by
  unfold judT17
  split
  · split <;> exact ⟨rfl, rfl, rfl, rfl⟩
  · exact ⟨rfl, rfl, rfl, rfl⟩
theorem same17_aft (T : Tk) (x : Int) : Same17 T (aft17 T x).1 := by
  unfold aft17
  split
  · unfold askT17; split <;> exact ⟨rfl, rfl, rfl, rfl⟩
  · split
    · exact ⟨rfl, rfl, rfl, rfl⟩
    · split
      · split <;> exact ⟨rfl, rfl, rfl, rfl⟩
      · split
        · split <;> exact ⟨rfl, rfl, rfl, rfl⟩
        · split
          · split <;> exact ⟨rfl, rfl, rfl, rfl⟩
          · split
            · split
              · exact ⟨rfl, rfl, rfl, rfl⟩
              · exact Same17.trans (show Same17 T { T with cnt := x } from ⟨rfl, rfl, rfl, rfl⟩) (same17_wor _)
            · split
              · exact Same17.trans (show Same17 T { T with load := T.load ++ [x] } from ⟨rfl, rfl, rfl, rfl⟩) (same17_wor _)
              · split
                · exact Same17.trans (same17_jud T x) ⟨rfl, rfl, rfl, rfl⟩
                · exact ⟨rfl, rfl, rfl, rfl⟩

#print axioms ok17_aft
#print axioms pot17_aft
#print axioms same17_aft
end Go.Proofs.YtgdbaaoifnedbaaDoor
