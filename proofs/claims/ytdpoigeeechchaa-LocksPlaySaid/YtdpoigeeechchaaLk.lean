/-
  Layer 10 (locks): a bank that is known whole (BankAt), the checks, Len, Owner, Try, Free, New.
  Conditions: those that each theorem states.
-/
import Derived.Test.YtdpoigeeechchaaApp
import Derived.Test.YtdpoigeeechchaaWhole
namespace Go.Proofs.Ytdpoigeeechchaa
open Go.ChangeShapes Go.WideShapes Go.ChangeAt Go.RowKit

/-- The owners, and the free places behind the last lock. -/
def padL (l : List Int) : List Int := l ++ List.replicate (16 - l.length) (-1)
theorem padL_len {l : List Int} (h : l.length ≤ 16) : (padL l).length = 16 := by
  simp [padL]; omega
theorem padL_at {l : List Int} {i : Nat} (h : i < l.length) : (padL l)[i]? = l[i]? := List.getElem?_append_left h
theorem padL_set {l : List Int} {i : Nat} (x : Int) (h : i < l.length) : (padL l).set i x = padL (l.set i x) := by
  simp [padL, List.set_append_left _ _ h]
theorem padL_end {l : List Int} {i : Nat} (h : l.length ≤ i) (hi : i < 16) : (padL l)[i]? = some (-1) := by
  unfold padL
  rw [List.getElem?_append_right h, List.getElem?_replicate, if_pos (by omega)]
theorem padL_inj {l m : List Int} (h : l.length = m.length) (e : padL l = padL m) : l = m := (List.append_inj e h).1

/-- A bank's cells. -/
def bcells (C : Nat) (l : List Int) : List Value := .int .i64 C :: .int .i64 l.length :: ints (padL l)
theorem bcells_set {C : Nat} {l : List Int} {k : Nat} (x : Int) (h : k < l.length) : (bcells C l).set (2 + k) (.int .i64 x) = bcells C (l.set k x) := by
  have e : 2 + k = k + 1 + 1 := by omega
  rw [e]
  simp only [bcells, List.set_cons_succ, List.length_set]
  rw [← ints_set, padL_set x h]
theorem bcells_at {C : Nat} {l : List Int} {k : Nat} {x : Int} (h : l[k]? = some x) : (bcells C l)[2 + k]? = some (.int .i64 x) := by
  have e : 2 + k = k + 1 + 1 := by omega
  rw [e]
  simp only [bcells, List.getElem?_cons_succ]
  exact ints_some (by rw [padL_at (List.getElem?_eq_some_iff.1 h).1]; exact h)
theorem bcells_len {C : Nat} {l : List Int} (h : l.length ≤ 16) : (bcells C l).length = 18 := by
  simp only [bcells, List.length_cons, ints_len, padL_len h]

/-- What a lock's owner may be. -/
def OwnOk (C : Nat) (x : Int) : Prop := x = -1 ∨ (0 ≤ x ∧ x < C)

structure BankAt (w : World) (g C : Nat) (l : List Int) : Prop where
  row : Row w g 54 (bcells C l)
  c0 : 1 ≤ C
  c8 : C ≤ 8
  n0 : 1 ≤ l.length
  n16 : l.length ≤ 16
  ok : ∀ (i : Nat) (x : Int), l[i]? = some x → OwnOk C x

theorem BankAt.only {S : Nat → Prop} {w w' : World} {g C : Nat} {l : List Int} (r : BankAt w g C l) (ho : Only S w w') (hn : ¬ S g) : BankAt w' g C l :=
  ⟨r.row.only ho hn, r.c0, r.c8, r.n0, r.n16, r.ok⟩
theorem BankAt.below {w w' : World} {g C : Nat} {l : List Int} (r : BankAt w g C l) (hb : Below w.heap.size w w') : BankAt w' g C l :=
  r.only (Only.of_below hb (fun _ => False)) (fun h => h)

theorem BankAt.put {w : World} {g C : Nat} {l : List Int} (r : BankAt w g C l) {k : Nat} (hk : k < l.length) {x : Int} (hx : OwnOk C x) : BankAt (w.setCell ⟨g, 2 + k, none⟩ (.int .i64 x)) g C (l.set k x) := by
  refine ⟨?_, r.c0, r.c8, by simpa using r.n0, by simpa using r.n16, fun i y hy => ?_⟩
  · rw [← bcells_set x hk]
    exact r.row.put (2 + k) _
  · rw [List.getElem?_set] at hy
    by_cases e : k = i
    · subst e
      rw [if_pos rfl, if_pos hk] at hy
      injection hy with hy
      subst hy
      exact hx
    · rw [if_neg e] at hy
      exact r.ok i y hy

theorem only_put10 (w : World) (g k : Nat) (u : Value) : Only (· = g) w (w.setCell ⟨g, k, none⟩ u) := (Only.refl (fun b => b = g) w).setCell (p := ⟨g, k, none⟩) (.inl rfl) u

/-- Why a core, a lock can't be referred to. -/
def ckC (C : Nat) (core : Int) : Int := if core < 0 ∨ (C : Int) ≤ core then 3 else 0
def ckL (n : Nat) (i : Int) : Int := if i < 0 ∨ (n : Int) ≤ i then 2 else 0
def ck (C n : Nat) (core i : Int) : Int := if ckC C core = 0 then ckL n i else ckC C core
theorem ckC_yes {C : Nat} {core : Int} (h0 : 0 ≤ core) (h1 : core < C) : ckC C core = 0 := by unfold ckC; rw [if_neg (by omega)]
theorem ckC_no {C : Nat} {core : Int} (h : core < 0 ∨ (C : Int) ≤ core) : ckC C core = 3 := by unfold ckC; rw [if_pos h]
theorem ckL_yes {n : Nat} {i : Int} (h0 : 0 ≤ i) (h1 : i < n) : ckL n i = 0 := by unfold ckL; rw [if_neg (by omega)]
theorem ckL_no {n : Nat} {i : Int} (h : i < 0 ∨ (n : Int) ≤ i) : ckL n i = 2 := by unfold ckL; rw [if_pos h]

set_option maxRecDepth 100000 in
set_option maxHeartbeats 400000 in
theorem checkCore_nil (core : Int) (w : World) :
    Calls Try.prog 25 #[.pointer none, .int .i64 core] w fun e w' => e = .returned (.int .i64 1) ∧ w = w' := by
  go_enter Try.func25, Try.ntmps25
  go_wp2
  go_ret
  exact ⟨rfl, rfl⟩

set_option maxRecDepth 100000 in
set_option maxHeartbeats 400000 in
theorem checkLock_nil (i : Int) (w : World) :
    Calls Try.prog 24 #[.pointer none, .int .i64 i] w fun e w' => e = .returned (.int .i64 1) ∧ w = w' := by
  go_enter Try.func24, Try.ntmps24
  go_wp2
  go_ret
  exact ⟨rfl, rfl⟩

set_option maxRecDepth 100000 in
set_option maxHeartbeats 1000000 in
theorem checkCore_any (g C : Nat) (l : List Int) (core : Int) (w : World) (r : BankAt w g C l) :
    Calls Try.prog 25 #[ptr g, .int .i64 core] w fun e w' => e = .returned (.int .i64 (ckC C core)) ∧ w = w' := by
  have hc : w.cell? ⟨g, 0, none⟩ = some (.int .i64 C) := r.row.cell 0
  clear r
  unfold ptr
  by_cases h0 : core < 0
  · have e := Lib.hid (ckC_no (C := C) (.inl h0))
    go_enter Try.func25, Try.ntmps25
    go_wp2
    go_ret
    exact ⟨by rw [e.out]; rfl, rfl⟩
  · by_cases h1 : (C : Int) ≤ core
    · have e := Lib.hid (ckC_no (C := C) (.inr h1))
      go_enter Try.func25, Try.ntmps25
      go_wp2
      go_ret
      exact ⟨by rw [e.out]; rfl, rfl⟩
    · have e := Lib.hid (ckC_yes (C := C) (core := core) (by omega) (by omega))
      have h2 : ¬ (core ≥ (C : Int)) := by omega
      go_enter Try.func25, Try.ntmps25
      go_wp2
      go_ret
      exact ⟨by rw [e.out]; rfl, rfl⟩

set_option maxRecDepth 100000 in
set_option maxHeartbeats 1000000 in
theorem checkLock_any (g C : Nat) (l : List Int) (i : Int) (w : World) (r : BankAt w g C l) :
    Calls Try.prog 24 #[ptr g, .int .i64 i] w fun e w' => e = .returned (.int .i64 (ckL l.length i)) ∧ w = w' := by
  have hc : w.cell? ⟨g, 1, none⟩ = some (.int .i64 l.length) := r.row.cell 1
  clear r
  obtain ⟨n, hn⟩ : ∃ n, l.length = n := ⟨_, rfl⟩
  rw [hn] at hc ⊢
  clear hn
  unfold ptr
  by_cases h0 : i < 0
  · have e := Lib.hid (ckL_no (n := n) (.inl h0))
    go_enter Try.func24, Try.ntmps24
    go_wp2
    go_ret
    exact ⟨by rw [e.out]; rfl, rfl⟩
  · by_cases h1 : (n : Int) ≤ i
    · have e := Lib.hid (ckL_no (n := n) (.inr h1))
      go_enter Try.func24, Try.ntmps24
      go_wp2
      go_ret
      exact ⟨by rw [e.out]; rfl, rfl⟩
    · have e := Lib.hid (ckL_yes (n := n) (i := i) (by omega) (by omega))
      have h2 : ¬ (i ≥ (n : Int)) := by omega
      go_enter Try.func24, Try.ntmps24
      go_wp2
      go_ret
      exact ⟨by rw [e.out]; rfl, rfl⟩

set_option maxRecDepth 100000 in
set_option maxHeartbeats 1000000 in
theorem check_any (g C : Nat) (l : List Int) (core i : Int) (w : World) (r : BankAt w g C l) :
    Calls Try.prog 26 #[ptr g, .int .i64 core, .int .i64 i] w fun e w' => e = .returned (.int .i64 (ck C l.length core i)) ∧ w = w' := by
  have k1 := Lib.hid (checkCore_any g C l core w r)
  have k2 := Lib.hid (checkLock_any g C l i w r)
  clear r
  unfold ptr at k1 k2 ⊢
  by_cases h : ckC C core = 0
  · have e : ck C l.length core i = ckL l.length i := by unfold ck; rw [if_pos h]
    rw [e]
    rw [h] at k1
    go_enter Try.func26, Try.ntmps26
    go_wp2_with fail
    refine k1.out.mono ?_
    rintro e w' ⟨rfl, rfl⟩
    go_wp2_with fail
    refine k2.out.mono ?_
    rintro e w' ⟨rfl, rfl⟩
    go_wp2
    go_ret
    exact ⟨rfl, rfl⟩
  · have e : ck C l.length core i = ckC C core := by unfold ck; rw [if_neg h]
    rw [e]
    have h3 : ckC C core = 3 := by unfold ckC at h ⊢; split <;> simp_all
    rw [h3] at k1 ⊢
    clear k2
    go_enter Try.func26, Try.ntmps26
    go_wp2_with fail
    refine k1.out.mono ?_
    rintro e w' ⟨rfl, rfl⟩
    go_wp2
    go_ret
    exact ⟨rfl, rfl⟩

set_option maxRecDepth 100000 in
set_option maxHeartbeats 400000 in
theorem check_nil (core i : Int) (w : World) :
    Calls Try.prog 26 #[.pointer none, .int .i64 core, .int .i64 i] w fun e w' => e = .returned (.int .i64 1) ∧ w = w' := by
  have k1 := Lib.hid (checkCore_nil core w)
  go_enter Try.func26, Try.ntmps26
  go_wp2_with fail
  refine k1.out.mono ?_
  rintro e w' ⟨rfl, rfl⟩
  go_wp2
  go_ret
  exact ⟨rfl, rfl⟩

set_option maxRecDepth 100000 in
set_option maxHeartbeats 400000 in
theorem len10_nil (w : World) :
    Calls Try.prog 16 #[.pointer none] w fun e w' => e = .returned (.int .i64 0) ∧ w = w' := by
  go_enter Try.func16, Try.ntmps16
  go_wp2
  go_ret
  exact ⟨rfl, rfl⟩

set_option maxRecDepth 100000 in
set_option maxHeartbeats 400000 in
theorem len10_any (g C : Nat) (l : List Int) (w : World) (r : BankAt w g C l) :
    Calls Try.prog 16 #[ptr g] w fun e w' => e = .returned (.int .i64 l.length) ∧ w = w' := by
  have hc : w.cell? ⟨g, 1, none⟩ = some (.int .i64 l.length) := r.row.cell 1
  clear r
  unfold ptr
  go_enter Try.func16, Try.ntmps16
  go_wp2
  go_ret
  exact ⟨rfl, rfl⟩

#print axioms check_any
end Go.Proofs.Ytdpoigeeechchaa
