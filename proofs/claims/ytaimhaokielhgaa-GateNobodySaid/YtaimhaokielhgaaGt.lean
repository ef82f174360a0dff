/-
  Layer 11 (gate): a gate that is known whole (GateAt), the check, New, Up, Epoch, Hold, Start, Link.
  Conditions: those that each theorem states.
-/
import Derived.Test.YtaimhaokielhgaaApp
import Derived.Test.YtaimhaokielhgaaWhole
import Derived.Test.YtaimhaokielhgaaWords
import Derived.Deep.QuietTactic
import Derived.BigQuiet
import Derived.Deep.DeepMust
namespace Go.Proofs.Ytaimhaokielhgaa
open Go.ChangeShapes Go.WideShapes Go.ChangeAt Go.RowKit

/-- The cores (epoch, held), and the places behind the last one. -/
def padG (l : List (Int × Bool)) : List (Int × Bool) := l ++ List.replicate (8 - l.length) (0, false)
theorem padG_len {l : List (Int × Bool)} (h : l.length ≤ 8) : (padG l).length = 8 := by
  simp [padG]; omega
theorem padG_at {l : List (Int × Bool)} {i : Nat} (h : i < l.length) : (padG l)[i]? = l[i]? := List.getElem?_append_left h
theorem padG_set {l : List (Int × Bool)} {i : Nat} (x : Int × Bool) (h : i < l.length) : (padG l).set i x = padG (l.set i x) := by
  simp [padG, List.set_append_left _ _ h]
theorem padG_inj {l m : List (Int × Bool)} (h : l.length = m.length) (e : padG l = padG m) : l = m := (List.append_inj e h).1

theorem set_is {α : Type} {l : List α} {k : Nat} {x : α} (h : l[k]? = some x) : l.set k x = l := by
  have hk := (List.getElem?_eq_some_iff.1 h).1
  apply List.ext_getElem?
  intro i
  rw [List.getElem?_set]
  by_cases e : k = i
  · subst e; rw [if_pos rfl, if_pos hk, h]
  · rw [if_neg e]

def gh (l : List (Int × Bool)) : List Value := l.map fun x => Value.bool x.2
def ge (l : List (Int × Bool)) : List Value := l.map fun x => Value.int .i64 x.1

/-- A gate's cells. -/
def gcells (l : List (Int × Bool)) : List Value := .int .i64 l.length :: (gh (padG l) ++ ge (padG l))
theorem gcells_len {l : List (Int × Bool)} (h : l.length ≤ 8) : (gcells l).length = 17 := by
  simp only [gcells, List.length_cons, List.length_append, gh, ge, List.length_map, padG_len h]
theorem gcells_h {l : List (Int × Bool)} {k : Nat} {e : Int} {b : Bool} (hl : l.length ≤ 8) (h : l[k]? = some (e, b)) : (gcells l)[1 + k]? = some (.bool b) := by
  have hk : k < l.length := (List.getElem?_eq_some_iff.1 h).1
  have hp := padG_len hl
  rw [gcells, Nat.add_comm, List.getElem?_cons_succ, List.getElem?_append_left (by simp [gh, hp]; omega)]
  simp [gh, List.getElem?_map, padG_at hk, h]
theorem gcells_e {l : List (Int × Bool)} {k : Nat} {e : Int} {b : Bool} (hl : l.length ≤ 8) (h : l[k]? = some (e, b)) : (gcells l)[9 + k]? = some (.int .i64 e) := by
  have hk : k < l.length := (List.getElem?_eq_some_iff.1 h).1
  have hp := padG_len hl
  rw [gcells, show 9 + k = 8 + k + 1 from by omega, List.getElem?_cons_succ, List.getElem?_append_right (by simp [gh, hp])]
  simp [gh, hp, ge, List.getElem?_map, padG_at hk, h]
theorem gcells_sh {l : List (Int × Bool)} {k : Nat} {e : Int} {b : Bool} (c : Bool) (hl : l.length ≤ 8) (h : l[k]? = some (e, b)) : (gcells l).set (1 + k) (.bool c) = gcells (l.set k (e, c)) := by
  have hk : k < l.length := (List.getElem?_eq_some_iff.1 h).1
  have hp := padG_len hl
  rw [gcells, gcells, Nat.add_comm, List.set_cons_succ, List.set_append_left _ _ (by simp [gh, hp]; omega), List.length_set, ← padG_set _ hk]
  have h1 : (gh (padG l)).set k (.bool c) = gh ((padG l).set k (e, c)) := by simp [gh, List.map_set]
  have h2 : ge ((padG l).set k (e, c)) = ge (padG l) := by
    unfold ge
    rw [List.map_set]
    refine set_is ?_
    simp [padG_at hk, h]
  rw [h1, h2]
theorem gcells_se {l : List (Int × Bool)} {k : Nat} {e : Int} {b : Bool} (y : Int) (hl : l.length ≤ 8) (h : l[k]? = some (e, b)) : (gcells l).set (9 + k) (.int .i64 y) = gcells (l.set k (y, b)) := by
  have hk : k < l.length := (List.getElem?_eq_some_iff.1 h).1
  have hp := padG_len hl
  rw [gcells, gcells, show 9 + k = 8 + k + 1 from by omega, List.set_cons_succ, List.set_append_right _ _ (by simp [gh, hp]), List.length_set, ← padG_set _ hk]
  have h1 : (ge (padG l)).set (8 + k - (gh (padG l)).length) (.int .i64 y) = ge ((padG l).set k (y, b)) := by simp [ge, gh, hp, List.map_set]
  have h2 : gh ((padG l).set k (y, b)) = gh (padG l) := by
    unfold gh
    rw [List.map_set]
    refine set_is ?_
    simp [padG_at hk, h]
  rw [h1, h2]

structure GateAt (w : World) (g : Nat) (l : List (Int × Bool)) : Prop where
  row : Row w g 59 (gcells l)
  c0 : 1 ≤ l.length
  c8 : l.length ≤ 8

theorem GateAt.only {S : Nat → Prop} {w w' : World} {g : Nat} {l : List (Int × Bool)} (r : GateAt w g l) (ho : Only S w w') (hn : ¬ S g) : GateAt w' g l :=
  ⟨r.row.only ho hn, r.c0, r.c8⟩
theorem GateAt.below {w w' : World} {g : Nat} {l : List (Int × Bool)} (r : GateAt w g l) (hb : Below w.heap.size w w') : GateAt w' g l :=
  r.only (Only.of_below hb (fun _ => False)) (fun h => h)
theorem GateAt.puth {w : World} {g : Nat} {l : List (Int × Bool)} (r : GateAt w g l) {k : Nat} {e : Int} {b : Bool} (h : l[k]? = some (e, b)) (c : Bool) : GateAt (w.setCell ⟨g, 1 + k, none⟩ (.bool c)) g (l.set k (e, c)) :=
  ⟨by rw [← gcells_sh c r.c8 h]; exact r.row.put (1 + k) _, by simpa using r.c0, by simpa using r.c8⟩
theorem GateAt.pute {w : World} {g : Nat} {l : List (Int × Bool)} (r : GateAt w g l) {k : Nat} {e : Int} {b : Bool} (h : l[k]? = some (e, b)) (y : Int) : GateAt (w.setCell ⟨g, 9 + k, none⟩ (.int .i64 y)) g (l.set k (y, b)) :=
  ⟨by rw [← gcells_se y r.c8 h]; exact r.row.put (9 + k) _, by simpa using r.c0, by simpa using r.c8⟩

theorem only_putG (w : World) (g k : Nat) (u : Value) : Only (· = g) w (w.setCell ⟨g, k, none⟩ u) := (Only.refl (fun b => b = g) w).setCell (p := ⟨g, k, none⟩) (.inl rfl) u

/-- Core number c. -/
def cr (l : List (Int × Bool)) (c : Int) : Option (Int × Bool) := if 0 ≤ c then l[c.toNat]? else none
theorem cr_nat (l : List (Int × Bool)) (k : Nat) : cr l (k : Int) = l[k]? := by simp [cr]
theorem cr_cases (l : List (Int × Bool)) (c : Int) : (cr l c = none ∧ (c < 0 ∨ (l.length : Int) ≤ c)) ∨ ∃ (k : Nat) (e : Int) (b : Bool), c = k ∧ k < l.length ∧ l[k]? = some (e, b) := by
  by_cases h0 : c < 0
  · exact .inl ⟨by unfold cr; rw [if_neg (by omega)], .inl h0⟩
  · obtain ⟨k, rfl⟩ := Int.eq_ofNat_of_zero_le (show 0 ≤ c by omega)
    by_cases h1 : k < l.length
    · exact .inr ⟨k, _, _, rfl, h1, List.getElem?_eq_getElem h1⟩
    · exact .inl ⟨by rw [cr_nat]; exact List.getElem?_eq_none (by omega), .inr (by omega)⟩

/-- What calls tell, and what they make of the cores. -/
def hasB (l : List (Int × Bool)) (c : Int) : Bool := (cr l c).isSome
def ckG (l : List (Int × Bool)) (c : Int) : Int := match cr l c with | some _ => 0 | none => 3
def upB (l : List (Int × Bool)) (c : Int) : Bool := match cr l c with | some x => !x.2 | none => false
def epV (l : List (Int × Bool)) (c : Int) : Int := match cr l c with | some x => x.1 | none => 0
def holdL (l : List (Int × Bool)) (c : Int) : List (Int × Bool) := match cr l c with | some (e, false) => l.set c.toNat (e, true) | _ => l
def holdE (l : List (Int × Bool)) (c : Int) : Int := match cr l c with | some (_, false) => 0 | some (_, true) => 11 | none => 3
def startL (l : List (Int × Bool)) (c : Int) : List (Int × Bool) := match cr l c with | some (e, true) => l.set c.toNat (addW e 1, false) | _ => l
def startE (l : List (Int × Bool)) (c : Int) : Int := match cr l c with | some (_, true) => 0 | some (_, false) => 13 | none => 3
def linkV (l : List (Int × Bool)) (a b : Int) : Int := match cr l a, cr l b with | some x, some y => if a = b then 0 else addW x.1 y.1 | _, _ => 0
def linkE (l : List (Int × Bool)) (a b : Int) : Int := match cr l a, cr l b with | some _, some _ => if a = b then 2 else 0 | _, _ => 3

set_option maxRecDepth 100000 in
set_option maxHeartbeats 400000 in
theorem check11_nil (core : Int) (w : World) :
    Calls Try.prog 27 #[.pointer none, .int .i64 core] w fun e w' => e = .returned (.int .i64 1) ∧ w = w' := by
  go_enter Try.func27, Try.ntmps27
  go_wp2
  go_ret
  exact ⟨rfl, rfl⟩

set_option maxRecDepth 100000 in
set_option maxHeartbeats 1000000 in
theorem check11_any (g : Nat) (l : List (Int × Bool)) (core : Int) (w : World) (r : GateAt w g l) :
    Calls Try.prog 27 #[ptr g, .int .i64 core] w fun e w' => e = .returned (.int .i64 (ckG l core)) ∧ w = w' := by
  have hc : w.cell? ⟨g, 0, none⟩ = some (.int .i64 l.length) := r.row.cell 0
  clear r
  obtain ⟨n, hn⟩ : ∃ n, l.length = n := ⟨_, rfl⟩
  rcases cr_cases l core with ⟨h, h0⟩ | ⟨k, e, b, rfl, hk, h⟩
  · have e : Hid (ckG l core = 3) := Lib.hid (by unfold ckG; rw [h])
    rw [hn] at hc h0
    clear h hn
    unfold ptr
    by_cases h1 : core < 0
    · go_enter Try.func27, Try.ntmps27
      go_wp2
      go_ret
      exact ⟨by rw [e.out]; rfl, rfl⟩
    · have h2 : (n : Int) ≤ core := by omega
      clear h0
      go_enter Try.func27, Try.ntmps27
      go_wp2
      go_ret
      exact ⟨by rw [e.out]; rfl, rfl⟩
  · have e : Hid (ckG l k = 0) := Lib.hid (by unfold ckG; rw [cr_nat, h])
    rw [hn] at hc hk
    have h1 : ¬ ((k : Int) < 0) := by omega
    have h2 : ¬ ((k : Int) ≥ (n : Int)) := by omega
    clear h hn
    unfold ptr
    go_enter Try.func27, Try.ntmps27
    go_wp2
    go_ret
    exact ⟨by rw [e.out]; rfl, rfl⟩

set_option maxRecDepth 100000 in
set_option maxHeartbeats 400000 in
theorem new11_no (c : Int) (w : World) (h : c < 1 ∨ 8 < c) :
    Calls Try.prog 7 #[.int .i64 c] w fun e w' => e = .returned (.pointer none) ∧ w = w' := by
  by_cases h1 : c < 1
  · go_enter Try.func7, Try.ntmps7
    go_wp2
    go_ret
    exact ⟨rfl, rfl⟩
  · have h2 : 8 < c := by omega
    go_enter Try.func7, Try.ntmps7
    go_wp2
    go_ret
    exact ⟨rfl, rfl⟩

/-- What New and Clone leave. -/
def MadeG (l : List (Int × Bool)) (w : World) (e : Ending) (w' : World) : Prop := ∃ g, e = .returned (ptr g) ∧ GateAt w' g l ∧ w.heap.size ≤ g ∧ Below w.heap.size w w'

def newG (C : Nat) : List (Int × Bool) := List.replicate C (0, false)
theorem newG_cells {C : Nat} (h : C ≤ 8) : gcells (newG C) = .int .i64 C :: (List.replicate 8 (.bool false) ++ List.replicate 8 (.int .i64 0)) := by
  have : padG (newG C) = List.replicate 8 (0, false) := by
    unfold padG newG
    rw [List.length_replicate, List.replicate_append_replicate, show C + (8 - C) = 8 from by omega]
  rw [gcells, this]
  simp [newG, gh, ge]

set_option maxRecDepth 100000 in
set_option maxHeartbeats 1000000 in
theorem new11_yes (C : Nat) (w : World) (c0 : 1 ≤ C) (c8 : C ≤ 8) :
    Calls Try.prog 7 #[.int .i64 (C : Int)] w (MadeG (newG C) w) := by
  have g1 : ¬ ((C : Int) < 1) := by omega
  have g2 : ¬ (8 < (C : Int)) := by omega
  go_enter Try.func7, Try.ntmps7
  go_wp2
  go_ret
  refine ⟨w.heap.size, rfl, ⟨?_, by simpa [newG] using c0, by simpa [newG] using c8⟩, Nat.le_refl _, below_al _ _⟩
  rw [newG_cells c8]
  exact Row.new w 59 _

#print axioms check11_any
#print axioms new11_yes
end Go.Proofs.Ytaimhaokielhgaa
