/-
  Layer 15 (grant): a table that is known whole (GrAt), what calls make of its slots (in numbers), exists, handle, New, Len.
  Conditions: those that each theorem states.
-/
import Derived.Test.YtgdbaaoifnedbaaDoorApp
import Derived.Test.YtgdbaaoifnedbaaDoorWhole
import Derived.Test.YtgdbaaoifnedbaaDoorWords
import Derived.Deep.QuietTactic
import Derived.BigQuiet
import Derived.Deep.DeepMust
import Derived.Deep.MidRow
namespace Go.Proofs.YtgdbaaoifnedbaaDoor
open Go.ChangeShapes Go.WideShapes Go.ChangeAt Go.RowKit

/-- The slots (generation, held), and the places behind the last one. -/
def pad15 (l : List (Int × Bool)) : List (Int × Bool) := l ++ List.replicate (64 - l.length) (0, false)
theorem pad15_len {l : List (Int × Bool)} (h : l.length ≤ 64) : (pad15 l).length = 64 := by
  simp [pad15]; omega
theorem pad15_at {l : List (Int × Bool)} {i : Nat} (h : i < l.length) : (pad15 l)[i]? = l[i]? := List.getElem?_append_left h
theorem pad15_set {l : List (Int × Bool)} {i : Nat} (x : Int × Bool) (h : i < l.length) : (pad15 l).set i x = pad15 (l.set i x) := by
  simp [pad15, List.set_append_left _ _ h]

def gv15 (l : List (Int × Bool)) : List Value := l.map fun x => Value.int .i64 x.1
def hv15 (l : List (Int × Bool)) : List Value := l.map fun x => Value.bool x.2

/-- A table's cells. -/
def cells15 (l : List (Int × Bool)) : List Value := .int .i64 l.length :: (gv15 (pad15 l) ++ hv15 (pad15 l))
theorem cells15_len {l : List (Int × Bool)} (h : l.length ≤ 64) : (cells15 l).length = 129 := by
  simp only [cells15, List.length_cons, List.length_append, gv15, hv15, List.length_map, pad15_len h]
theorem cells15_g {l : List (Int × Bool)} {k : Nat} {e : Int} {b : Bool} (hl : l.length ≤ 64) (h : l[k]? = some (e, b)) : (cells15 l)[1 + k]? = some (.int .i64 e) := by
  have hk : k < l.length := lt_of_at h
  have hp := pad15_len hl
  rw [cells15, Nat.add_comm, List.getElem?_cons_succ, List.getElem?_append_left (by simp [gv15, hp]; omega)]
  simp [gv15, List.getElem?_map, pad15_at hk, h]
theorem cells15_h {l : List (Int × Bool)} {k : Nat} {e : Int} {b : Bool} (hl : l.length ≤ 64) (h : l[k]? = some (e, b)) : (cells15 l)[65 + k]? = some (.bool b) := by
  have hk : k < l.length := lt_of_at h
  have hp := pad15_len hl
  rw [cells15, show 65 + k = 64 + k + 1 from by omega, List.getElem?_cons_succ, List.getElem?_append_right (by simp [gv15, hp])]
  simp [gv15, hp, hv15, List.getElem?_map, pad15_at hk, h]
theorem cells15_sg {l : List (Int × Bool)} {k : Nat} {e : Int} {b : Bool} (y : Int) (hl : l.length ≤ 64) (h : l[k]? = some (e, b)) : (cells15 l).set (1 + k) (.int .i64 y) = cells15 (l.set k (y, b)) := by
  have hk : k < l.length := lt_of_at h
  have hp := pad15_len hl
  rw [cells15, cells15, Nat.add_comm, List.set_cons_succ, List.set_append_left _ _ (by simp [gv15, hp]; omega), List.length_set, ← pad15_set _ hk]
  have h1 : (gv15 (pad15 l)).set k (.int .i64 y) = gv15 ((pad15 l).set k (y, b)) := by simp [gv15, List.map_set]
  have h2 : hv15 ((pad15 l).set k (y, b)) = hv15 (pad15 l) := by
    unfold hv15
    rw [List.map_set]
    refine set_same ?_
    simp [pad15_at hk, h]
  rw [h1, h2]
theorem cells15_sh {l : List (Int × Bool)} {k : Nat} {e : Int} {b : Bool} (c : Bool) (hl : l.length ≤ 64) (h : l[k]? = some (e, b)) : (cells15 l).set (65 + k) (.bool c) = cells15 (l.set k (e, c)) := by
  have hk : k < l.length := lt_of_at h
  have hp := pad15_len hl
  rw [cells15, cells15, show 65 + k = 64 + k + 1 from by omega, List.set_cons_succ, List.set_append_right _ _ (by simp [gv15, hp]), List.length_set, ← pad15_set _ hk]
  have h1 : (hv15 (pad15 l)).set (64 + k - (gv15 (pad15 l)).length) (.bool c) = hv15 ((pad15 l).set k (e, c)) := by simp [hv15, gv15, hp, List.map_set]
  have h2 : gv15 ((pad15 l).set k (e, c)) = gv15 (pad15 l) := by
    unfold gv15
    rw [List.map_set]
    refine set_same ?_
    simp [pad15_at hk, h]
  rw [h1, h2]

/-- All generations are words. -/
def Wd15 (l : List (Int × Bool)) : Prop := ∀ (k : Nat) (e : Int) (b : Bool), l[k]? = some (e, b) → 0 ≤ e ∧ e ≤ 65535
theorem Wd15.set {l : List (Int × Bool)} (h : Wd15 l) {i : Nat} {e : Int} {b : Bool} (h0 : 0 ≤ e) (h1 : e ≤ 65535) : Wd15 (l.set i (e, b)) := by
  intro k e' b' hk
  rw [List.getElem?_set] at hk
  split at hk
  · split at hk
    · injection hk with hk
      injection hk with ha hb
      subst ha
      exact ⟨h0, h1⟩
    · cases hk
  · exact h k e' b' hk

structure GrAt (w : World) (g : Nat) (l : List (Int × Bool)) : Prop where
  row : Row w g 142 (cells15 l)
  n0 : 1 ≤ l.length
  n64 : l.length ≤ 64
  gen : Wd15 l

theorem GrAt.only {S : Nat → Prop} {w w' : World} {g : Nat} {l : List (Int × Bool)} (r : GrAt w g l) (ho : Only S w w') (hn : ¬ S g) : GrAt w' g l :=
  ⟨r.row.only ho hn, r.n0, r.n64, r.gen⟩
theorem GrAt.below {w w' : World} {g : Nat} {l : List (Int × Bool)} (r : GrAt w g l) (hb : Below w.heap.size w w') : GrAt w' g l :=
  r.only (Only.of_below hb (fun _ => False)) (fun h => h)
theorem GrAt.putH {w : World} {g : Nat} {l : List (Int × Bool)} (r : GrAt w g l) {k : Nat} {e : Int} {b : Bool} (h : l[k]? = some (e, b)) (c : Bool) : GrAt (w.setCell ⟨g, 65 + k, none⟩ (.bool c)) g (l.set k (e, c)) :=
  ⟨by rw [← cells15_sh c r.n64 h]; exact r.row.put (65 + k) _, by simpa using r.n0, by simpa using r.n64, r.gen.set (r.gen k e b h).1 (r.gen k e b h).2⟩
theorem GrAt.putG {w : World} {g : Nat} {l : List (Int × Bool)} (r : GrAt w g l) {k : Nat} {e : Int} {b : Bool} (h : l[k]? = some (e, b)) (y : Int) (h0 : 0 ≤ y) (h1 : y ≤ 65535) : GrAt (w.setCell ⟨g, 1 + k, none⟩ (.int .i64 y)) g (l.set k (y, b)) :=
  ⟨by rw [← cells15_sg y r.n64 h]; exact r.row.put (1 + k) _, by simpa using r.n0, by simpa using r.n64, r.gen.set h0 h1⟩

theorem only_put15 (w : World) (g k : Nat) (u : Value) : Only (· = g) w (w.setCell ⟨g, k, none⟩ u) := (Only.refl (fun b => b = g) w).setCell (p := ⟨g, k, none⟩) (.inl rfl) u

/-- Slot number c. -/
def at15 (l : List (Int × Bool)) (c : Int) : Option (Int × Bool) := if 0 ≤ c then l[c.toNat]? else none
theorem at15_nat (l : List (Int × Bool)) (k : Nat) : at15 l (k : Int) = l[k]? := by simp [at15]
theorem at15_cases (l : List (Int × Bool)) (c : Int) : (at15 l c = none ∧ (c < 0 ∨ (l.length : Int) ≤ c)) ∨ ∃ (k : Nat) (e : Int) (b : Bool), c = k ∧ k < l.length ∧ l[k]? = some (e, b) := by
  by_cases h0 : c < 0
  · exact .inl ⟨by unfold at15; rw [if_neg (by omega)], .inl h0⟩
  · obtain ⟨k, rfl⟩ := Int.eq_ofNat_of_zero_le (show 0 ≤ c by omega)
    by_cases h1 : k < l.length
    · exact .inr ⟨k, _, _, rfl, h1, List.getElem?_eq_getElem h1⟩
    · exact .inl ⟨by rw [at15_nat]; exact List.getElem?_eq_none (by omega), .inr (by omega)⟩

/-- What calls tell, and what they make of the slots. -/
def isB15 (l : List (Int × Bool)) (c : Int) : Bool := (at15 l c).isSome
def giveL15 (l : List (Int × Bool)) (i : Int) : List (Int × Bool) := match at15 l i with | some (e, false) => l.set i.toNat (addW e 1, true) | _ => l
def giveV15 (l : List (Int × Bool)) (i : Int) : Int := match at15 l i with | some (e, false) => addW e 1 * 64 + i | _ => 0
def giveB15 (l : List (Int × Bool)) (i : Int) : Bool := match at15 l i with | some (_, false) => true | _ => false
def slotO15 (l : List (Int × Bool)) (h : Int) : Option Nat := match at15 l (h.tmod 64) with | some (e, true) => if e * 64 + h.tmod 64 = h then some (h.tmod 64).toNat else none | _ => none
def slotV15 (l : List (Int × Bool)) (h : Int) : Int := match slotO15 l h with | some k => (k : Int) | none => 0
def slotB15 (l : List (Int × Bool)) (h : Int) : Bool := (slotO15 l h).isSome
def offL15 (l : List (Int × Bool)) (k : Nat) : List (Int × Bool) := match l[k]? with | some (e, _) => l.set k (e, false) | none => l
def dropL15 (l : List (Int × Bool)) (h : Int) : List (Int × Bool) := match slotO15 l h with | some k => offL15 l k | none => l
def dropE15 (l : List (Int × Bool)) (h : Int) : Int := match slotO15 l h with | some _ => 0 | none => 7
def clearL15 (l : List (Int × Bool)) : List (Int × Bool) := l.map fun x => (x.1, false)

/-- A handle of a held slot is found. -/
theorem slotO15_yes {l : List (Int × Bool)} {k : Nat} {e : Int} (h : l[k]? = some (e, true)) (hk : k < 64) (he : 0 ≤ e) : slotO15 l (e * 64 + k) = some k := by
  have h1 : (e * 64 + (k : Int)).tmod 64 = k := by
    rw [Int.tmod_eq_emod_of_nonneg (by omega)]; omega
  unfold slotO15
  rw [h1, at15_nat, h]
  simp
/-- What is found is such a slot. -/
theorem slotO15_is {l : List (Int × Bool)} {h : Int} {k : Nat} (hs : slotO15 l h = some k) : ∃ e, l[k]? = some (e, true) ∧ e * 64 + k = h := by
  unfold slotO15 at hs
  rcases at15_cases l (h.tmod 64) with ⟨h1, _⟩ | ⟨j, e, b, hj, _, h1⟩
  · rw [h1] at hs; cases hs
  · rw [hj, at15_nat, h1] at hs
    cases b with
    | false => cases hs
    | true =>
      simp only at hs
      split at hs
      · rename_i he
        injection hs with hs
        rw [Int.toNat_natCast] at hs
        subst hs
        exact ⟨e, h1, he⟩
      · cases hs

set_option maxRecDepth 100000 in
set_option maxHeartbeats 400000 in
theorem exists15_nil (i : Int) (w : World) :
    Calls Tryd.prog 107 #[.pointer none, .int .i64 i] w fun e w' => e = .returned (.bool false) ∧ w = w' := by
  go_enter Tryd.func107, Tryd.ntmps107
  go_wp2
  go_ret
  exact ⟨rfl, rfl⟩

set_option maxRecDepth 100000 in
set_option maxHeartbeats 1000000 in
theorem exists15_any (g : Nat) (l : List (Int × Bool)) (i : Int) (w : World) (r : GrAt w g l) :
    Calls Tryd.prog 107 #[ptr g, .int .i64 i] w fun e w' => e = .returned (.bool (isB15 l i)) ∧ w = w' := by
  have hc : w.cell? ⟨g, 0, none⟩ = some (.int .i64 l.length) := r.row.cell 0
  clear r
  obtain ⟨n, hn⟩ : ∃ n, l.length = n := ⟨_, rfl⟩
  rcases at15_cases l i with ⟨h, h0⟩ | ⟨k, e, b, rfl, hk, h⟩
  · have e : Hid (isB15 l i = false) := Lib.hid (by unfold isB15; rw [h]; rfl)
    rw [hn] at hc h0
    clear h hn
    unfold ptr
    by_cases h1 : 0 ≤ i
    · have h2 : decide (i < (n : Int)) = false := by simp; omega
      clear h0
      go_enter Tryd.func107, Tryd.ntmps107
      go_wp2
      go_ret
      exact ⟨by rw [e.out]; rfl, rfl⟩
    · have h2 : decide (0 ≤ i) = false := by simpa using h1
      clear h0 h1
      go_enter Tryd.func107, Tryd.ntmps107
      go_wp2
      go_ret
      exact ⟨by rw [e.out]; rfl, rfl⟩
  · have e : Hid (isB15 l k = true) := Lib.hid (by unfold isB15; rw [at15_nat, h]; rfl)
    rw [hn] at hc hk
    have h1 : (0 : Int) ≤ (k : Int) := by omega
    have h2 : (k : Int) < (n : Int) := by omega
    clear h hn
    unfold ptr
    go_enter Tryd.func107, Tryd.ntmps107
    go_wp2
    go_ret
    exact ⟨by rw [e.out]; rfl, rfl⟩

set_option maxRecDepth 100000 in
set_option maxHeartbeats 400000 in
theorem handle15_any (g : Nat) (l : List (Int × Bool)) (k : Nat) (e : Int) (b : Bool) (w : World) (r : GrAt w g l) (h : l[k]? = some (e, b)) :
    Calls Tryd.prog 108 #[ptr g, .int .i64 (k : Int)] w fun x w' => x = .returned (.int .i64 (e * 64 + k)) ∧ w = w' := by
  have hc : w.cell? ⟨g, 1 + k, none⟩ = some (.int .i64 e) := (r.row.cell (1 + k)).trans (cells15_g r.n64 h)
  have h64 : k < 64 := by have := r.n64; have := lt_of_at h; omega
  obtain ⟨e0, e1⟩ := r.gen k e b h
  have b1 : (k : Int) < 64 := by omega
  have b2 : (0 : Int) ≤ (k : Int) := by omega
  clear r h
  unfold ptr
  go_enter Tryd.func108, Tryd.ntmps108
  go_wp2
  go_ret
  exact ⟨rfl, rfl⟩

set_option maxRecDepth 100000 in
set_option maxHeartbeats 400000 in
theorem new15_no (c : Int) (w : World) (h : c < 1 ∨ 64 < c) :
    Calls Tryd.prog 106 #[.int .i64 c] w fun e w' => e = .returned (.pointer none) ∧ w = w' := by
  by_cases h1 : c < 1
  · go_enter Tryd.func106, Tryd.ntmps106
    go_wp2
    go_ret
    exact ⟨rfl, rfl⟩
  · have h2 : 64 < c := by omega
    go_enter Tryd.func106, Tryd.ntmps106
    go_wp2
    go_ret
    exact ⟨rfl, rfl⟩

/-- What New and Clone leave. -/
def Made15 (l : List (Int × Bool)) (w : World) (e : Ending) (w' : World) : Prop := ∃ g, e = .returned (ptr g) ∧ GrAt w' g l ∧ w.heap.size ≤ g ∧ Below w.heap.size w w'

def new15 (C : Nat) : List (Int × Bool) := List.replicate C (0, false)
theorem new15_cells {C : Nat} (h : C ≤ 64) : cells15 (new15 C) = .int .i64 C :: (List.replicate 64 (.int .i64 0) ++ List.replicate 64 (.bool false)) := by
  have : pad15 (new15 C) = List.replicate 64 (0, false) := by
    unfold pad15 new15
    rw [List.length_replicate, List.replicate_append_replicate, show C + (64 - C) = 64 from by omega]
  rw [cells15, this]
  simp [new15, gv15, hv15]
theorem new15_wd (C : Nat) : Wd15 (new15 C) := by
  intro k e b h
  unfold new15 at h
  rw [List.getElem?_replicate] at h
  split at h
  · injection h with h
    injection h with h1 h2
    omega
  · cases h

theorem table15_zero : (Tryd.prog.info? 142).map (·.zero) = some (some (.agg (cells15 []).toArray)) := by kernel_rfl
theorem table15_zeroV (W : World) : (zeroValue 142).run Tryd.prog W = .ok (.agg (cells15 []).toArray) W := by
  obtain ⟨i, hi, hiz⟩ := Option.map_eq_some_iff.1 table15_zero
  simp [zeroValue, typeInfo, hi, hiz]

set_option maxRecDepth 100000 in
set_option maxHeartbeats 4000000 in
theorem new15_yes (C : Nat) (w : World) (c0 : 1 ≤ C) (c64 : C ≤ 64) :
    Calls Tryd.prog 106 #[.int .i64 (C : Int)] w (Made15 (new15 C) w) := by
  have g1 : ¬ ((C : Int) < 1) := by omega
  have g2 : ¬ (64 < (C : Int)) := by omega
  have zv := table15_zeroV
  rw [show cells15 [] = cells15 (new15 0) from rfl, new15_cells (by omega)] at zv
  have NC := Lib.hid (new15_cells c64)
  obtain ⟨rest, hrest⟩ : ∃ rest, (List.replicate 64 (Value.int .i64 0) ++ List.replicate 64 (Value.bool false)) = rest := ⟨_, rfl⟩
  rw [hrest] at zv NC
  clear hrest
  go_enter Tryd.func106, Tryd.ntmps106
  go_wp2
  go_ret
  refine ⟨w.heap.size, rfl, ⟨?_, by simpa [new15] using c0, by simpa [new15] using c64, new15_wd C⟩, Nat.le_refl _, below_al _ _⟩
  rw [NC.out]
  exact Row.new w 142 _

#print axioms exists15_any
#print axioms handle15_any
#print axioms new15_yes
end Go.Proofs.YtgdbaaoifnedbaaDoor
