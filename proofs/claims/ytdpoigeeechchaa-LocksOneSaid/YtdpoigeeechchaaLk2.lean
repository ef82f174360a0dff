/-
  Layer 10 (locks): Owner, Try, Free, New.
  Conditions: those that each theorem states.
-/
import Derived.Test.YtdpoigeeechchaaLk
namespace Go.Proofs.Ytdpoigeeechchaa
open Go.ChangeShapes Go.WideShapes Go.ChangeAt Go.RowKit

theorem ckC_zero {C : Nat} {core : Int} (h : ckC C core = 0) : 0 ≤ core ∧ core < C := by
  unfold ckC at h
  split at h <;> omega
theorem ckL_zero {n : Nat} {i : Int} (h : ckL n i = 0) : ∃ k : Nat, i = k ∧ k < n := by
  unfold ckL at h
  split at h
  · omega
  · exact ⟨i.toNat, by omega, by omega⟩
theorem ck_zero {C n : Nat} {core i : Int} (h : ck C n core i = 0) : (0 ≤ core ∧ core < C) ∧ ∃ k : Nat, i = k ∧ k < n := by
  unfold ck at h
  split at h
  · exact ⟨ckC_zero ‹_›, ckL_zero h⟩
  · exact absurd h ‹_›

/-- What calls make of the owners, and what they tell. -/
def tryB (C : Nat) (l : List Int) (core i : Int) : Bool := decide (ck C l.length core i = 0 ∧ l[i.toNat]? = some (-1))
def tryL (C : Nat) (l : List Int) (core i : Int) : List Int := if ck C l.length core i = 0 ∧ l[i.toNat]? = some (-1) then l.set i.toNat core else l
def freeE (C : Nat) (l : List Int) (core i : Int) : Int := if ck C l.length core i = 0 then (if l[i.toNat]? = some core then 0 else 12) else ck C l.length core i
def freeL (C : Nat) (l : List Int) (core i : Int) : List Int := if ck C l.length core i = 0 ∧ l[i.toNat]? = some core then l.set i.toNat (-1) else l
def ownV (l : List Int) (i : Int) : Int := if ckL l.length i = 0 then l.getD i.toNat 0 else 0

set_option maxRecDepth 100000 in
set_option maxHeartbeats 400000 in
theorem owner10_nil (i : Int) (w : World) :
    Calls Try.prog 17 #[.pointer none, .int .i64 i] w fun e w' => e = .returned (.tuple #[.int .i64 0, .int .i64 1]) ∧ w = w' := by
  have k1 := Lib.hid (checkLock_nil i w)
  go_enter Try.func17, Try.ntmps17
  go_wp2_with fail
  refine k1.out.mono ?_
  rintro e w' ⟨rfl, rfl⟩
  go_wp2
  go_ret2
  exact ⟨rfl, rfl⟩

set_option maxRecDepth 100000 in
set_option maxHeartbeats 1000000 in
theorem owner10_any (g C : Nat) (l : List Int) (i : Int) (w : World) (r : BankAt w g C l) :
    Calls Try.prog 17 #[ptr g, .int .i64 i] w fun e w' => e = .returned (.tuple #[.int .i64 (ownV l i), .int .i64 (ckL l.length i)]) ∧ w = w' := by
  have k1 := Lib.hid (checkLock_any g C l i w r)
  unfold ptr at k1 ⊢
  by_cases h : ckL l.length i = 0
  · obtain ⟨k, rfl, hk⟩ := ckL_zero h
    obtain ⟨x, hx⟩ : ∃ x, l[k]? = some x := ⟨_, List.getElem?_eq_getElem hk⟩
    have hv : ownV l (k : Int) = x := by unfold ownV; rw [if_pos h]; simp [hx]
    rw [h] at k1 ⊢
    rw [hv]
    have hc : w.cell? ⟨g, 2 + k, none⟩ = some (.int .i64 x) := (r.row.cell (2 + k)).trans (bcells_at hx)
    have h16 : k < 16 := by have := r.n16; omega
    clear r h hv hx hk
    go_enter Try.func17, Try.ntmps17
    go_wp2_with fail
    refine k1.out.mono ?_
    rintro e w' ⟨rfl, rfl⟩
    go_wp2
    go_ret2
    exact ⟨rfl, rfl⟩
  · have hv : ownV l i = 0 := by unfold ownV; rw [if_neg h]
    rw [hv]
    obtain ⟨c, hc⟩ : ∃ c, ckL l.length i = c := ⟨_, rfl⟩
    rw [hc] at k1 h ⊢
    have hb : (c != 0) = true := by simpa using h
    clear r hc h hv
    go_enter Try.func17, Try.ntmps17
    go_wp2_with fail
    refine k1.out.mono ?_
    rintro e w' ⟨rfl, rfl⟩
    go_wp2
    go_ret2
    exact ⟨rfl, rfl⟩

/-- What a writing call leaves: its answer, the new owners. -/
def BankP (g C : Nat) (l' : List Int) (v : Value) (w : World) (e : Ending) (w' : World) : Prop := e = .returned v ∧ BankAt w' g C l' ∧ Only (· = g) w w'

set_option maxRecDepth 100000 in
set_option maxHeartbeats 1000000 in
theorem try10_any (g C : Nat) (l : List Int) (core i : Int) (w : World) (r : BankAt w g C l) :
    Calls Try.prog 19 #[ptr g, .int .i64 core, .int .i64 i] w (BankP g C (tryL C l core i) (.tuple #[.bool (tryB C l core i), .int .i64 (ck C l.length core i)]) w) := by
  have k1 := Lib.hid (check_any g C l core i w r)
  unfold ptr at k1 ⊢
  by_cases h : ck C l.length core i = 0
  · obtain ⟨⟨hc0, hc1⟩, k, rfl, hk⟩ := ck_zero h
    obtain ⟨x, hx⟩ : ∃ x, l[k]? = some x := ⟨_, List.getElem?_eq_getElem hk⟩
    have hc : w.cell? ⟨g, 2 + k, none⟩ = some (.int .i64 x) := (r.row.cell (2 + k)).trans (bcells_at hx)
    have hs := r.row.soft (2 + k)
    have h16 : k < 16 := by have := r.n16; omega
    by_cases hf : x = -1
    · subst hf
      have h1 : tryL C l core k = l.set k core := by unfold tryL; rw [if_pos ⟨h, by simpa using hx⟩]; simp
      have h2 : tryB C l core k = true := by unfold tryB; rw [decide_eq_true ⟨h, by simpa using hx⟩]
      rw [h1, h2, h]
      rw [h] at k1
      have R := Lib.hid (r.put hk (x := core) (.inr ⟨hc0, hc1⟩))
      clear r h hx hk h1 h2 hc0 hc1
      go_enter Try.func19, Try.ntmps19
      go_wp2_with fail
      refine k1.out.mono ?_
      rintro e w' ⟨rfl, rfl⟩
      go_wp2
      go_ret2
      exact ⟨rfl, R.out, only_put10 _ _ _ _⟩
    · have h1 : tryL C l core k = l := by unfold tryL; rw [if_neg (fun e => hf (by have := hx.symm.trans (by simpa using e.2); injection this))]
      have h2 : tryB C l core k = false := by unfold tryB; rw [decide_eq_false (fun e => hf (by have := hx.symm.trans (by simpa using e.2); injection this))]
      rw [h1, h2, h]
      rw [h] at k1
      have hb : (x != -1) = true := by simpa using hf
      have R := Lib.hid r
      clear r h hx hk h1 h2 hc0 hc1 hf
      go_enter Try.func19, Try.ntmps19
      go_wp2_with fail
      refine k1.out.mono ?_
      rintro e w' ⟨rfl, rfl⟩
      go_wp2
      go_ret2
      exact ⟨rfl, R.out, Only.refl _ _⟩
  · have h1 : tryL C l core i = l := by unfold tryL; rw [if_neg (fun e => h e.1)]
    have h2 : tryB C l core i = false := by unfold tryB; rw [decide_eq_false (fun e => h e.1)]
    rw [h1, h2]
    obtain ⟨c, hc⟩ : ∃ c, ck C l.length core i = c := ⟨_, rfl⟩
    rw [hc] at k1 h ⊢
    have hb : (c != 0) = true := by simpa using h
    have R := Lib.hid r
    clear r hc h h1 h2
    go_enter Try.func19, Try.ntmps19
    go_wp2_with fail
    refine k1.out.mono ?_
    rintro e w' ⟨rfl, rfl⟩
    go_wp2
    go_ret2
    exact ⟨rfl, R.out, Only.refl _ _⟩

set_option maxRecDepth 100000 in
set_option maxHeartbeats 400000 in
theorem try10_nil (core i : Int) (w : World) :
    Calls Try.prog 19 #[.pointer none, .int .i64 core, .int .i64 i] w fun e w' => e = .returned (.tuple #[.bool false, .int .i64 1]) ∧ w = w' := by
  have k1 := Lib.hid (check_nil core i w)
  go_enter Try.func19, Try.ntmps19
  go_wp2_with fail
  refine k1.out.mono ?_
  rintro e w' ⟨rfl, rfl⟩
  go_wp2
  go_ret2
  exact ⟨rfl, rfl⟩

set_option maxRecDepth 100000 in
set_option maxHeartbeats 1000000 in
theorem free10_any (g C : Nat) (l : List Int) (core i : Int) (w : World) (r : BankAt w g C l) :
    Calls Try.prog 20 #[ptr g, .int .i64 core, .int .i64 i] w (BankP g C (freeL C l core i) (.int .i64 (freeE C l core i)) w) := by
  have k1 := Lib.hid (check_any g C l core i w r)
  unfold ptr at k1 ⊢
  by_cases h : ck C l.length core i = 0
  · obtain ⟨⟨hc0, hc1⟩, k, rfl, hk⟩ := ck_zero h
    obtain ⟨x, hx⟩ : ∃ x, l[k]? = some x := ⟨_, List.getElem?_eq_getElem hk⟩
    have hc : w.cell? ⟨g, 2 + k, none⟩ = some (.int .i64 x) := (r.row.cell (2 + k)).trans (bcells_at hx)
    have hs := r.row.soft (2 + k)
    have h16 : k < 16 := by have := r.n16; omega
    by_cases hf : x = core
    · subst hf
      have h1 : freeL C l x k = l.set k (-1) := by unfold freeL; rw [if_pos ⟨h, by simpa using hx⟩]; simp
      have h2 : freeE C l x k = 0 := by unfold freeE; rw [if_pos h, if_pos (by simpa using hx)]
      rw [h1, h2]
      rw [h] at k1
      have R := Lib.hid (r.put hk (x := -1) (.inl rfl))
      clear r h hx hk h1 h2 hc0 hc1
      go_enter Try.func20, Try.ntmps20
      go_wp2_with fail
      refine k1.out.mono ?_
      rintro e w' ⟨rfl, rfl⟩
      go_wp2
      go_ret
      exact ⟨rfl, R.out, only_put10 _ _ _ _⟩
    · have h1 : freeL C l core k = l := by unfold freeL; rw [if_neg (fun e => hf (by have := hx.symm.trans (by simpa using e.2); injection this))]
      have h2 : freeE C l core k = 12 := by unfold freeE; rw [if_pos h, if_neg (fun e => hf (by have := hx.symm.trans (by simpa using e); injection this))]
      rw [h1, h2]
      rw [h] at k1
      have hb : (x != core) = true := by simpa using hf
      have R := Lib.hid r
      clear r h hx hk h1 h2 hc0 hc1 hf
      go_enter Try.func20, Try.ntmps20
      go_wp2_with fail
      refine k1.out.mono ?_
      rintro e w' ⟨rfl, rfl⟩
      go_wp2
      go_ret
      exact ⟨rfl, R.out, Only.refl _ _⟩
  · have h1 : freeL C l core i = l := by unfold freeL; rw [if_neg (fun e => h e.1)]
    have h2 : freeE C l core i = ck C l.length core i := by unfold freeE; rw [if_neg h]
    rw [h1, h2]
    obtain ⟨c, hc⟩ : ∃ c, ck C l.length core i = c := ⟨_, rfl⟩
    rw [hc] at k1 h ⊢
    have hb : (c != 0) = true := by simpa using h
    have R := Lib.hid r
    clear r hc h h1 h2
    go_enter Try.func20, Try.ntmps20
    go_wp2_with fail
    refine k1.out.mono ?_
    rintro e w' ⟨rfl, rfl⟩
    go_wp2
    go_ret
    exact ⟨rfl, R.out, Only.refl _ _⟩

set_option maxRecDepth 100000 in
set_option maxHeartbeats 400000 in
theorem free10_nil (core i : Int) (w : World) :
    Calls Try.prog 20 #[.pointer none, .int .i64 core, .int .i64 i] w fun e w' => e = .returned (.int .i64 1) ∧ w = w' := by
  have k1 := Lib.hid (check_nil core i w)
  go_enter Try.func20, Try.ntmps20
  go_wp2_with fail
  refine k1.out.mono ?_
  rintro e w' ⟨rfl, rfl⟩
  go_wp2
  go_ret
  exact ⟨rfl, rfl⟩

set_option maxRecDepth 100000 in
set_option maxHeartbeats 400000 in
theorem new10_no (c n : Int) (w : World) (h : c < 1 ∨ 8 < c ∨ n < 1 ∨ 16 < n) :
    Calls Try.prog 7 #[.int .i64 c, .int .i64 n] w fun e w' => e = .returned (.pointer none) ∧ w = w' := by
  by_cases h1 : c < 1
  · go_enter Try.func7, Try.ntmps7
    go_wp2
    go_ret
    exact ⟨rfl, rfl⟩
  · by_cases h2 : 8 < c
    · go_enter Try.func7, Try.ntmps7
      go_wp2
      go_ret
      exact ⟨rfl, rfl⟩
    · by_cases h3 : n < 1
      · go_enter Try.func7, Try.ntmps7
        go_wp2
        go_ret
        exact ⟨rfl, rfl⟩
      · have h4 : 16 < n := by omega
        go_enter Try.func7, Try.ntmps7
        go_wp2
        go_ret
        exact ⟨rfl, rfl⟩

def newK (k : Nat) : List Int := List.replicate k (-1) ++ List.replicate (16 - k) 0
theorem newK_step {k : Nat} (h : k < 16) : (newK k).set k (-1) = newK (k + 1) := by
  apply List.ext_getElem?
  intro j
  simp only [newK, List.getElem?_set, List.getElem?_append, List.getElem?_replicate, List.length_append, List.length_replicate]
  rcases Nat.lt_trichotomy j k with h1 | h1 | h1
  · rw [if_neg (by omega), if_pos h1, if_pos h1, if_pos (by omega), if_pos (by omega)]
  · subst h1
    rw [if_pos rfl, if_pos (by omega), if_pos (by omega), if_pos (by omega)]
  · rw [if_neg (show ¬ k = j from by omega), if_neg (show ¬ j < k from by omega), if_neg (show ¬ j < k + 1 from by omega)]
    by_cases h2 : j < 16
    · rw [if_pos (show j - k < 16 - k from by omega), if_pos (show j - (k + 1) < 16 - (k + 1) from by omega)]
    · rw [if_neg (show ¬ j - k < 16 - k from by omega), if_neg (show ¬ j - (k + 1) < 16 - (k + 1) from by omega)]
theorem newK_at {k : Nat} (h : k < 16) : (newK k)[k]? = some 0 := by
  simp only [newK, List.getElem?_append, List.getElem?_replicate, List.length_replicate]
  simp; omega
theorem newK_all (n : Nat) (h : n ≤ 16) : newK 16 = padL (List.replicate n (-1)) := by
  unfold newK padL
  rw [List.length_replicate, List.replicate_append_replicate, show n + (16 - n) = 16 from by omega]
  simp

/-- What New leaves. -/
def MadeK (C : Nat) (l : List Int) (w : World) (e : Ending) (w' : World) : Prop := ∃ g, e = .returned (ptr g) ∧ BankAt w' g C l ∧ w.heap.size ≤ g ∧ Below w.heap.size w w'

theorem bank_first (C n : Nat) (k : Nat) (x : Int) : (.int .i64 (C : Int) :: .int .i64 (n : Int) :: ints (newK k) : List Value).set (2 + k) (.int .i64 x) = .int .i64 (C : Int) :: .int .i64 (n : Int) :: ints ((newK k).set k x) := by
  have e : 2 + k = k + 1 + 1 := by omega
  rw [e]
  simp only [List.set_cons_succ]
  rw [← ints_set]

set_option maxRecDepth 100000 in
set_option maxHeartbeats 1000000 in
theorem new10_yes (C n : Nat) (w : World) (c0 : 1 ≤ C) (c8 : C ≤ 8) (n0 : 1 ≤ n) (n16 : n ≤ 16) :
    Calls Try.prog 7 #[.int .i64 (C : Int), .int .i64 (n : Int)] w (MadeK C (List.replicate n (-1)) w) := by
  have g1 : ¬ ((C : Int) < 1) := by omega
  have g2 : ¬ (8 < (C : Int)) := by omega
  have g3 : ¬ ((n : Int) < 1) := by omega
  have g4 : ¬ (16 < (n : Int)) := by omega
  go_enter Try.func7, Try.ntmps7
  go_wp2
  go_loopw [25] (fun i wr => ∃ k : Nat, k ≤ 16 ∧ i = .int .i64 k ∧ Hid (Row wr w.heap.size 54 (.int .i64 (C : Int) :: .int .i64 (n : Int) :: ints (newK k))) ∧ Hid (Below w.heap.size w wr)) (fun i _ => 16 - (intOf i).toNat)
  case atStart => exact ⟨0, Nat.zero_le _, rfl, Lib.hid (Row.new w 54 _), Lib.hid (below_al _ _)⟩
  case round =>
    obtain ⟨k, hk, rfl, HR, HB⟩ := hrel
    by_cases hlt : k < 16
    · have hc : wr.cell? ⟨w.heap.size, 2 + k, none⟩ = some (.int .i64 0) := by
        rw [HR.out.cell, Nat.add_comm]
        exact ints_some (newK_at hlt)
      have hs := HR.out.soft (2 + k)
      have R1 := HR.out.put (2 + k) (.int .i64 (-1))
      rw [bank_first, newK_step hlt] at R1
      have HR1 := Lib.hid R1
      have HB1 := Lib.hid (HB.out.setCell (p := ⟨w.heap.size, 2 + k, none⟩) (by simp) (.int .i64 (-1)))
      clear R1
      go_wp2
      go_roundw
      case rel => exact ⟨k + 1, by omega, by go_num, HR1, HB1⟩
      case measure => simp [intOf]; omega
    · obtain rfl : k = 16 := by omega
      go_wp2
      go_ret
      refine ⟨w.heap.size, rfl, ⟨?_, c0, c8, by simpa using n0, by simpa using n16, fun i x hx => ?_⟩, Nat.le_refl _, HB.out⟩
      · have := HR.out
        rw [newK_all n n16] at this
        unfold bcells
        rw [List.length_replicate]
        exact this
      · rw [List.getElem?_replicate] at hx
        split at hx
        · injection hx with hx; exact .inl hx.symm
        · cases hx

#print axioms new10_yes
end Go.Proofs.Ytdpoigeeechchaa
