/-
  Layer 16 (giver): the numbers of a giver: what always holds of them, and how many accesses a call still makes.
  Conditions: those that each theorem states.
-/
import Derived.Test.YtgdbaaoifnedbaaDoorGv7
namespace Go.Proofs.YtgdbaaoifnedbaaDoor
open Go.ChangeShapes Go.WideShapes Go.ChangeAt Go.RowKit

/-- What always holds of a giver's numbers. -/
structure Ok16 (G : Gv) : Prop where
  ins : G.ins = false
  B : 0 ≤ G.B ∧ G.B ≤ 65535
  R : okRing (G.R : Int)
  st : G.st ≤ 15
  next : 0 ≤ G.next ∧ G.next ≤ 65535
  tail : 0 ≤ G.tail ∧ G.tail ≤ 65535
  perm : (G.free ++ G.out).Perm (upto16 G.R)
  load : G.load.length ≤ 8
  held : 8 ≤ G.st → G.st ≤ 14 → G.out ≠ []
  word : G.st = 8 → G.sto < G.load.length
  sto : G.sto ≤ G.load.length
  fresh : G.st ≤ 7 → G.sto = 0
  ret : G.st = 7 → 0 < G.ret ∧ G.ret ≤ (G.out.length : Int)

theorem Ok16.len {G : Gv} (h : Ok16 G) : G.free.length + G.out.length = G.R := by
  have := h.perm.length_eq
  rwa [List.length_append, upto16_len] at this
theorem Ok16.R64 {G : Gv} (h : Ok16 G) : 2 ≤ G.R ∧ G.R ≤ 64 := by have := h.R.bd; omega
theorem Ok16.acc {G : Gv} (h : Ok16 G) : Acc16 G :=
  ⟨h.ins, h.B, by have := h.R64; omega, h.next, h.tail, by have := h.len; have := h.R64; omega, fun h1 h2 => h.held h1 (by omega), h.word, h.load⟩
theorem Ok16.fit {G : Gv} (h : Ok16 G) (h0 : G.st ≠ 0) : Fit16 G := by
  have h1 := h.len
  have h2 := h.R64
  exact ⟨⟨by omega, h.st⟩, h2.2, by omega, by omega, by have := h.sto; have := h.load; omega, fun e => by have := h.ret e; omega⟩

theorem ok16_new {B self peer own : Int} {R : Nat} (h : ok16 B (R : Int) self peer own) : Ok16 (new16 B R peer own) :=
  ⟨rfl, ⟨h.2.1.1, by have := h.2.1.2; show B ≤ 65535; omega⟩, h.1, by show 0 ≤ 15; omega, by show (0 : Int) ≤ 0 ∧ (0 : Int) ≤ 65535; omega, by show (0 : Int) ≤ 0 ∧ (0 : Int) ≤ 65535; omega, by show (upto16 R ++ []).Perm (upto16 R); rw [List.append_nil], by show 0 ≤ 8; omega, fun h _ => absurd h (by show ¬ (8 ≤ 0); omega), fun h => absurd h (by show ¬ (0 = 8); omega), Nat.le_refl _, fun _ => rfl, fun h => absurd h (by show ¬ (0 = 7); omega)⟩

theorem ok16_send {G : Gv} (h : Ok16 G) (l : List Int) : Ok16 (sendG16 G l) := by
  unfold sendG16
  split
  · rename_i he
    have h8 : l.length ≤ 8 := by
      unfold sendE16 at he
      split at he
      · cases he
      · split at he
        · cases he
        · omega
    exact ⟨h.ins, h.B, h.R, by show 1 ≤ 15; omega, h.next, h.tail, h.perm, h8, fun h _ => absurd h (by show ¬ (8 ≤ 1); omega), fun h => absurd h (by show ¬ (1 = 8); omega), Nat.zero_le _, fun _ => rfl, fun h => absurd h (by show ¬ (1 = 7); omega)⟩
  · exact h

theorem ok16_idle {G : Gv} (h : Ok16 G) : Ok16 (idle16 G) :=
  ⟨h.ins, h.B, h.R, by show 0 ≤ 15; omega, h.next, h.tail, h.perm, by show 0 ≤ 8; omega, fun h _ => absurd h (by show ¬ (8 ≤ 0); omega), fun h => absurd h (by show ¬ (0 = 8); omega), Nat.le_refl _, fun _ => rfl, fun h => absurd h (by show ¬ (0 = 7); omega)⟩

theorem ok16_wri {G : Gv} (h : Ok16 G) (ho : G.out ≠ []) : Ok16 (wri16 G) := by
  unfold wri16
  have hs := h.sto
  split
  · exact ⟨h.ins, h.B, h.R, by show 9 ≤ 15; omega, h.next, h.tail, h.perm, h.load, fun _ _ => ho, fun h => absurd h (by show ¬ (9 = 8); omega), h.sto, fun h => absurd h (by show ¬ (9 ≤ 7); omega), fun h => absurd h (by show ¬ (9 = 7); omega)⟩
  · rename_i hne
    exact ⟨h.ins, h.B, h.R, by show 8 ≤ 15; omega, h.next, h.tail, h.perm, h.load, fun _ _ => ho, fun _ => by show G.sto < G.load.length; omega, h.sto, fun h => absurd h (by show ¬ (8 ≤ 7); omega), fun h => absurd h (by show ¬ (8 = 7); omega)⟩

theorem ok16_fin {G : Gv} (h : Ok16 G) (n : Int) : Ok16 (fin16 G n) :=
  ⟨h.ins, h.B, h.R, Nat.le_refl _, h.next, h.tail, h.perm, h.load, fun _ h => absurd h (by show ¬ (15 ≤ 14); omega), fun h => absurd h (by show ¬ (15 = 8); omega), h.sto, fun h => absurd h (by show ¬ (15 ≤ 7); omega), fun h => absurd h (by show ¬ (15 = 7); omega)⟩

theorem takB16_yes {G : Gv} (h : takB16 G = true) : ∃ d fs, G.free = d :: fs ∧ takG16 G = { G with free := fs, out := G.out ++ [d] } := by
  unfold takB16 at h
  unfold takG16
  cases hf : G.free with
  | nil => rw [hf] at h; cases h
  | cons d fs => exact ⟨d, fs, rfl, rfl⟩

theorem ok16_tak {G : Gv} (h : Ok16 G) (h6 : G.st ≤ 7) (hb : takB16 G = true) (hst : G.st ≠ 7) : Ok16 (takG16 G) ∧ (takG16 G).out ≠ [] := by
  obtain ⟨d, fs, hf, e⟩ := takB16_yes hb
  rw [e]
  refine ⟨⟨h.ins, h.B, h.R, h.st, h.next, h.tail, ?_, h.load, fun h1 _ => absurd h1 (by show ¬ (8 ≤ G.st); omega), fun h => absurd h (by show ¬ (G.st = 8); omega), h.sto, fun _ => h.fresh h6, fun h => absurd h hst⟩, by simp⟩
  have := h.perm
  rw [hf] at this
  show (fs ++ (G.out ++ [d])).Perm (upto16 G.R)
  refine List.Perm.trans ?_ this
  rw [← List.append_assoc]
  exact List.perm_append_singleton d (fs ++ G.out)

/-- A giver in another state of the first seven. -/
theorem ok16_st {G : Gv} (h : Ok16 G) (n : Nat) (hn : n < 7) (h7 : G.st ≤ 7) : Ok16 { G with st := n } :=
  ⟨h.ins, h.B, h.R, by show n ≤ 15; omega, h.next, h.tail, h.perm, h.load, fun h1 _ => absurd h1 (by show ¬ (8 ≤ n); omega), fun h => absurd h (by show ¬ (n = 8); omega), h.sto, fun _ => h.fresh h7, fun h => absurd h (by show ¬ (n = 7); omega)⟩

theorem ok16_roo {G : Gv} (h : Ok16 { G with st := 6 }) (hr : G.ret ≤ (G.out.length : Int)) : Ok16 (roo16 G) := by
  unfold roo16
  split
  · rename_i h0
    exact ⟨h.ins, h.B, h.R, by show 7 ≤ 15; omega, h.next, h.tail, h.perm, h.load, fun h1 _ => absurd h1 (by show ¬ (8 ≤ 7); omega), fun h => absurd h (by show ¬ (7 = 8); omega), h.sto, fun _ => h.fresh (by show 6 ≤ 7; omega), fun _ => ⟨h0, hr⟩⟩
  · split
    · rename_i hb
      have hk := ok16_tak h (by show 6 ≤ 7; omega) hb (by show 6 ≠ 7; omega)
      have e1 : (takG16 { G with st := 6 }) = { takG16 G with st := 6 } := by
        unfold takG16
        cases hfr : G.free <;> simp [hfr]
      rw [e1] at hk
      exact ok16_wri (G := { takG16 G with st := 6 }) hk.1 hk.2
    · exact ok16_fin h 5

/-- What follows from an access keeps all that. -/
theorem ok16_aft {G : Gv} (h : Ok16 G) (x : Int) : Ok16 (aft16 G x).1 := by
  have h15 := h.st
  unfold aft16
  split
  · rename_i e
    have hs : askS16 G x < 7 := by unfold askS16; split; omega; split <;> omega
    have h1 : Ok16 (askG16 G x) := by
      unfold askG16
      split
      · exact ⟨h.ins, h.B, h.R, h.st, h.next, h.tail, h.perm, h.load, h.held, h.word, h.sto, h.fresh, h.ret⟩
      · exact h
    have e2 : (askG16 G x).st ≤ 7 := by unfold askG16; split <;> (show G.st ≤ 7; omega)
    exact ok16_st h1 _ hs e2
  · split
    · exact ok16_idle ⟨h.ins, h.B, h.R, h.st, by show (0 : Int) ≤ 0 ∧ (0 : Int) ≤ 65535; omega, by show (0 : Int) ≤ 0 ∧ (0 : Int) ≤ 65535; omega, by show (upto16 G.R ++ []).Perm (upto16 G.R); rw [List.append_nil], h.load, fun h1 _ => absurd h1 (by show ¬ (8 ≤ G.st); omega), fun h => absurd h (by show ¬ (G.st = 8); omega), h.sto, h.fresh, fun h => absurd h (by show ¬ (G.st = 7); omega)⟩
    · split
      · split
        · have := ok16_st h 6 (by omega) (by omega)
          exact ⟨this.ins, this.B, this.R, this.st, this.next, this.tail, this.perm, this.load, this.held, this.word, this.sto, this.fresh, this.ret⟩
        · exact ok16_idle h
      · split
        · rename_i e6
          have h6 : Ok16 { G with ret := subW x G.tail, st := 6 } := by
            have := ok16_st h 6 (by omega) (by omega)
            exact ⟨this.ins, this.B, this.R, this.st, this.next, this.tail, this.perm, this.load, this.held, this.word, this.sto, this.fresh, fun h => absurd h (by show ¬ (6 = 7); omega)⟩
          split
          · exact ok16_fin (G := { G with ret := subW x G.tail, st := 6 }) h6 10
          · exact ok16_roo (G := { G with ret := subW x G.tail }) h6 (by show subW x G.tail ≤ (G.out.length : Int); omega)
        · split
          · rename_i e7
            split
            · rename_i hx
              have hr := h.ret e7
              have hl : (G.out.erase x).length = G.out.length - 1 := List.length_erase_of_mem hx
              have hpos : 0 < G.out.length := List.length_pos_of_mem hx
              refine ok16_roo (G := { regG16 G x with ret := G.ret - 1 }) ⟨h.ins, h.B, h.R, by show 6 ≤ 15; omega, h.next, ?_, ?_, h.load, fun h1 _ => absurd h1 (by show ¬ (8 ≤ 6); omega), fun h => absurd h (by show ¬ (6 = 8); omega), h.sto, fun _ => h.fresh (by omega), fun h => absurd h (by show ¬ (6 = 7); omega)⟩ ?_
              · exact addW_bd G.tail 1
              · show (G.free ++ [x] ++ G.out.erase x).Perm (upto16 G.R)
                refine List.Perm.trans ?_ h.perm
                rw [List.append_assoc]
                exact List.Perm.append_left _ (List.perm_cons_erase hx).symm
              · show G.ret - 1 ≤ ((G.out.erase x).length : Int)
                rw [hl]
                omega
            · exact ok16_fin h 10
          · split
            · rename_i e8
              have hw := h.word e8
              exact ok16_wri (G := { G with sto := G.sto + 1, st := 9 }) ⟨h.ins, h.B, h.R, by show 9 ≤ 15; omega, h.next, h.tail, h.perm, h.load, fun _ _ => h.held (by omega) (by omega), fun h => absurd h (by show ¬ (9 = 8); omega), by show G.sto + 1 ≤ G.load.length; omega, fun h => absurd h (by show ¬ (9 ≤ 7); omega), fun h => absurd h (by show ¬ (9 = 7); omega)⟩ (h.held (by omega) (by omega))
            · split
              · have hj : Ok16 (judG16 G x) := by
                  unfold judG16
                  split
                  · exact ⟨h.ins, h.B, h.R, h.st, addW_bd G.next 1, h.tail, h.perm, h.load, h.held, h.word, h.sto, h.fresh, h.ret⟩
                  · exact h
                exact ok16_idle hj
              · exact ⟨h.ins, h.B, h.R, by show G.st + 1 ≤ 15; omega, h.next, h.tail, h.perm, h.load, fun (h1 : 8 ≤ G.st + 1) (h2 : G.st + 1 ≤ 14) => h.held (by omega) (by omega), fun (h1 : G.st + 1 = 8) => by omega, h.sto, fun (h1 : G.st + 1 ≤ 7) => h.fresh (by omega), fun (h1 : G.st + 1 = 7) => by omega⟩

/-- How many accesses a call still makes at most. -/
def pot16 (G : Gv) : Nat :=
  if G.st = 0 then 0 else if G.st = 1 then G.out.length + G.load.length + 10 else if G.st ≤ 4 then 5 - G.st else if G.st ≤ 6 then G.out.length + G.load.length + 14 - G.st
  else if G.st = 7 then G.ret.toNat + G.load.length + 7 else if G.st = 8 then 7 + (G.load.length - G.sto) else 16 - G.st

theorem pot16_wri (G : Gv) : pot16 (wri16 G) = 7 + (G.load.length - G.sto) ∧ (wri16 G).st ≠ 0 := by
  unfold wri16 pot16
  split
  · rename_i e
    simp [e]
  · simp
theorem pot16_fin (G : Gv) (n : Int) : pot16 (fin16 G n) = 1 ∧ (fin16 G n).st ≠ 0 := by simp [pot16, fin16]
theorem takG16_same (G : Gv) : (takG16 G).load = G.load ∧ (takG16 G).sto = G.sto ∧ (takG16 G).R = G.R ∧ (takG16 G).B = G.B ∧ (takG16 G).peer = G.peer ∧ (takG16 G).own = G.own := by
  unfold takG16
  split <;> exact ⟨rfl, rfl, rfl, rfl, rfl, rfl⟩
theorem pot16_roo {G : Gv} (h : G.sto = 0) : 1 ≤ pot16 (roo16 G) ∧ pot16 (roo16 G) ≤ G.ret.toNat + G.load.length + 7 ∧ (roo16 G).st ≠ 0 := by
  unfold roo16
  split
  · simp [pot16]
  · split
    · obtain ⟨t1, t2, _⟩ := takG16_same G
      obtain ⟨h1, h2⟩ := pot16_wri (takG16 G)
      rw [h1, t1, t2]
      exact ⟨by omega, by omega, h2⟩
    · obtain ⟨h1, h2⟩ := pot16_fin G 5
      rw [h1]
      exact ⟨by omega, by omega, h2⟩

/-- Each access leaves fewer of them; the call has ended just if none is left. -/
theorem pot16_aft {G : Gv} (h : Ok16 G) (h0 : G.st ≠ 0) (x : Int) :
    pot16 (aft16 G x).1 + 1 ≤ pot16 G ∧ ((aft16 G x).2 = none → 1 ≤ pot16 (aft16 G x).1 ∧ (aft16 G x).1.st ≠ 0) ∧ ((aft16 G x).2 ≠ none → (aft16 G x).1.st = 0) := by
  have h15 := h.st
  unfold aft16
  split
  · rename_i e
    have e1 : pot16 G = G.out.length + G.load.length + 10 := by simp [pot16, e]
    rw [e1]
    have hs : askS16 G x = 2 ∨ askS16 G x = 5 ∨ askS16 G x = 6 := by unfold askS16; split; exact .inl rfl; split; exact .inr (.inr rfl); exact .inr (.inl rfl)
    have e2 : (askG16 G x).out = G.out ∧ (askG16 G x).load = G.load := by unfold askG16; split <;> exact ⟨rfl, rfl⟩
    rcases hs with hs | hs | hs <;> simp [pot16, hs, e2.1, e2.2] <;> omega
  · split
    · rename_i e
      simp [pot16, idle16, e]
    · split
      · rename_i e
        split <;> simp [pot16, idle16, e] <;> omega
      · split
        · rename_i e
          have e1 : pot16 G = G.out.length + G.load.length + 8 := by simp [pot16, e]
          rw [e1]
          split
          · obtain ⟨f1, f2⟩ := pot16_fin { G with ret := subW x G.tail } 10
            exact ⟨by rw [f1]; omega, fun _ => ⟨by rw [f1]; omega, f2⟩, fun h => absurd rfl h⟩
          · obtain ⟨f1, f2, f3⟩ := pot16_roo (G := { G with ret := subW x G.tail }) (h.fresh (by omega))
            have hb := subW_bd x G.tail
            have f4 : pot16 (roo16 { G with ret := subW x G.tail }) ≤ (subW x G.tail).toNat + G.load.length + 7 := f2
            exact ⟨by show pot16 (roo16 { G with ret := subW x G.tail }) + 1 ≤ _; omega, fun _ => ⟨f1, f3⟩, fun h => absurd rfl h⟩
        · split
          · rename_i e
            have e1 : pot16 G = G.ret.toNat + G.load.length + 7 := by simp [pot16, e]
            have hr := h.ret e
            rw [e1]
            split
            · obtain ⟨f1, f2, f3⟩ := pot16_roo (G := { regG16 G x with ret := G.ret - 1 }) (h.fresh (by omega))
              have f4 : pot16 (roo16 { regG16 G x with ret := G.ret - 1 }) ≤ (G.ret - 1).toNat + G.load.length + 7 := f2
              exact ⟨by show pot16 (roo16 { regG16 G x with ret := G.ret - 1 }) + 1 ≤ _; omega, fun _ => ⟨f1, f3⟩, fun h => absurd rfl h⟩
            · obtain ⟨f1, f2⟩ := pot16_fin G 10
              exact ⟨by rw [f1]; omega, fun _ => ⟨by rw [f1]; omega, f2⟩, fun h => absurd rfl h⟩
          · split
            · rename_i e
              have e1 : pot16 G = 7 + (G.load.length - G.sto) := by simp [pot16, e]
              have hw := h.word e
              obtain ⟨f1, f2⟩ := pot16_wri { G with sto := G.sto + 1 }
              have f3 : pot16 (wri16 { G with sto := G.sto + 1 }) = 7 + (G.load.length - (G.sto + 1)) := f1
              rw [e1]
              exact ⟨by show pot16 (wri16 { G with sto := G.sto + 1 }) + 1 ≤ _; omega, fun _ => ⟨by show 1 ≤ pot16 (wri16 { G with sto := G.sto + 1 }); omega, f2⟩, fun h => absurd rfl h⟩
            · split
              · rename_i e
                simp [pot16, idle16, e]
              · have : G.st = 2 ∨ G.st = 3 ∨ G.st = 9 ∨ G.st = 10 ∨ G.st = 11 ∨ G.st = 12 ∨ G.st = 13 ∨ G.st = 14 := by omega
                rcases this with e | e | e | e | e | e | e | e <;> simp [pot16, e]

/-- A new call makes at most Bound accesses. -/
theorem pot16_send {G : Gv} (h : Ok16 G) {l : List Int} (he : sendE16 G l = 0) : pot16 (sendG16 G l) ≤ G.R + 18 ∧ (sendG16 G l).st = 1 := by
  have h8 : l.length ≤ 8 := by
    unfold sendE16 at he
    split at he
    · cases he
    · split at he
      · cases he
      · omega
  have hl := h.len
  unfold sendG16
  rw [if_pos he]
  simp [pot16]
  omega

/-- The parts that never change. -/
def Same16 (G G' : Gv) : Prop := G'.R = G.R ∧ G'.B = G.B ∧ G'.peer = G.peer ∧ G'.own = G.own
theorem same16_roo (G : Gv) : Same16 G (roo16 G) := by
  unfold roo16
  split
  · exact ⟨rfl, rfl, rfl, rfl⟩
  · split
    · obtain ⟨_, _, a, b, c, d⟩ := takG16_same G
      exact ⟨a, b, c, d⟩
    · exact ⟨rfl, rfl, rfl, rfl⟩
theorem same16_aft (G : Gv) (x : Int) : Same16 G (aft16 G x).1 := by
  unfold aft16
  split
  · unfold askG16; split <;> exact ⟨rfl, rfl, rfl, rfl⟩
  · split
    · exact ⟨rfl, rfl, rfl, rfl⟩
    · split
      · split <;> exact ⟨rfl, rfl, rfl, rfl⟩
      · split
        · split
          · exact ⟨rfl, rfl, rfl, rfl⟩
          · exact same16_roo { G with ret := subW x G.tail }
        · split
          · split
            · exact same16_roo { regG16 G x with ret := G.ret - 1 }
            · exact ⟨rfl, rfl, rfl, rfl⟩
          · split
            · exact ⟨rfl, rfl, rfl, rfl⟩
            · split
              · unfold idle16 judG16; split <;> exact ⟨rfl, rfl, rfl, rfl⟩
              · exact ⟨rfl, rfl, rfl, rfl⟩
theorem same16_send (G : Gv) (l : List Int) : Same16 G (sendG16 G l) := by unfold sendG16; split <;> exact ⟨rfl, rfl, rfl, rfl⟩
theorem Same16.trans {G G1 G2 : Gv} (h : Same16 G G1) (k : Same16 G1 G2) : Same16 G G2 := ⟨k.1.trans h.1, k.2.1.trans h.2.1, k.2.2.1.trans h.2.2.1, k.2.2.2.trans h.2.2.2⟩

#print axioms ok16_aft
#print axioms pot16_aft
#print axioms same16_aft
end Go.Proofs.YtgdbaaoifnedbaaDoor
