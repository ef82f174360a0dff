/-
  Texts merged, with what one theorem needs of them.
  Conditions: those that each theorem states.
-/
import Derived.Test.YtiofipofbeodpaaGreatDoorRows
import Derived.Test.YtiofipofbeodpaaGreatDoorZ1
import Derived.Test.YtiofipofbeodpaaGreatDoorZ2
import Derived.Test.YtiofipofbeodpaaGreatDoorZ3
import Derived.Test.YtiofipofbeodpaaGreatDoorZ7
import Derived.Test.YtiofipofbeodpaaGreatDoorZ13
import Derived.Below
import Derived.BigQuiet
import Derived.Deep.AppendLies
import Derived.Deep.DeepMust
import Derived.Deep.Draws
import Derived.Deep.MidRow
import Derived.Deep.OwnRows
import Derived.Deep.QuietTactic
import Derived.Great.BuildSlice
import Derived.Handy
import Derived.IntWalk
import Derived.Laws.BitsLemmas
import Derived.Laws.CopyOwn
import Derived.Laws.OwnMore
import Derived.Laws.Rows
import Derived.Lib.Hide
import Derived.Maps.AppendAt
import Derived.OpenShut
import Derived.ProofKit
import Derived.RegionTactic
import Derived.WalkKit
namespace Go.Proofs.YtiofipofbeodpaaGreatDoor

section
open Go.ChangeShapes Go.WideShapes Go.ChangeAt Go.RowKit
/-- The slots (generation, held), and the places behind the last one. -/
def pad15 (l : List (Int × Bool)) : List (Int × Bool) := l ++ List.replicate (64 - l.length) (0, false)
theorem pad15_len {l : List (Int × Bool)} (h : l.length ≤ 64) : (pad15 l).length = 64 := by
  simp [pad15]; omega
theorem pad15_at {l : List (Int × Bool)} {i : Nat} (h : i < l.length) : (pad15 l)[i]? = l[i]? := List.getElem?_append_left h
theorem pad15_set {l : List (Int × Bool)} {i : Nat} (x : Int × Bool) (h : i < l.length) : (pad15 l).set i x = pad15 (l.set i x) := by
  simp [pad15, List.set_append_left _ _ h]
def gv15 (l : List (Int × Bool)) : List Value := l.map fun x => Value.int .i64 x.1
def hv15 (l : List (Int × Bool)) : List Value := l.map fun x => Value.bool x.2
/-- A table's cells. -/
def cells15 (l : List (Int × Bool)) : List Value := .int .i64 l.length :: (gv15 (pad15 l) ++ hv15 (pad15 l))
theorem cells15_len {l : List (Int × Bool)} (h : l.length ≤ 64) : (cells15 l).length = 129 := by
  simp only [cells15, List.length_cons, List.length_append, gv15, hv15, List.length_map, pad15_len h]
theorem cells15_g {l : List (Int × Bool)} {k : Nat} {e : Int} {b : Bool} (hl : l.length ≤ 64) (h : l[k]? = some (e, b)) : (cells15 l)[1 + k]? = some (.int .i64 e) := by
  have hk : k < l.length := lt_of_at h
  have hp := pad15_len hl
  rw [cells15, Nat.add_comm, List.getElem?_cons_succ, List.getElem?_append_left (by simp [gv15, hp]; omega)]
  simp [gv15, List.getElem?_map, pad15_at hk, h]
theorem cells15_h {l : List (Int × Bool)} {k : Nat} {e : Int} {b : Bool} (hl : l.length ≤ 64) (h : l[k]? = some (e, b)) : (cells15 l)[65 + k]? = some (.bool b) := by
  have hk : k < l.length := lt_of_at h
  have hp := pad15_len hl
  rw [cells15, show 65 + k = 64 + k + 1 from by omega, List.getElem?_cons_succ, List.getElem?_append_right (by simp [gv15, hp])]
  simp [gv15, hp, hv15, List.getElem?_map, pad15_at hk, h]
theorem cells15_sg {l : List (Int × Bool)} {k : Nat} {e : Int} {b : Bool} (y : Int) (hl : l.length ≤ 64) (h : l[k]? = some (e, b)) : (cells15 l).set (1 + k) (.int .i64 y) = cells15 (l.set k (y, b)) := by
  have hk : k < l.length := lt_of_at h
  have hp := pad15_len hl
  rw [cells15, cells15, Nat.add_comm, List.set_cons_succ, List.set_append_left _ _ (by simp [gv15, hp]; omega), List.length_set, ← pad15_set _ hk]
  have h1 : (gv15 (pad15 l)).set k (.int .i64 y) = gv15 ((pad15 l).set k (y, b)) := by simp [gv15, List.map_set]
  have h2 : hv15 ((pad15 l).set k (y, b)) = hv15 (pad15 l) := by
    unfold hv15
    rw [List.map_set]
    refine set_same ?_
    simp [pad15_at hk, h]
  rw [h1, h2]
theorem cells15_sh {l : List (Int × Bool)} {k : Nat} {e : Int} {b : Bool} (c : Bool) (hl : l.length ≤ 64) (h : l[k]? = some (e, b)) : (cells15 l).set (65 + k) (.bool c) = cells15 (l.set k (e, c)) := by
  have hk : k < l.length := lt_of_at h
  have hp := pad15_len hl
  rw [cells15, cells15, show 65 + k = 64 + k + 1 from by omega, List.set_cons_succ, List.set_append_right _ _ (by simp [gv15, hp]), List.length_set, ← pad15_set _ hk]
  have h1 : (hv15 (pad15 l)).set (64 + k - (gv15 (pad15 l)).length) (.bool c) = hv15 ((pad15 l).set k (e, c)) := by simp [hv15, gv15, hp, List.map_set]
  have h2 : gv15 ((pad15 l).set k (e, c)) = gv15 (pad15 l) := by
    unfold gv15
    rw [List.map_set]
    refine set_same ?_
    simp [pad15_at hk, h]
  rw [h1, h2]
/-- All generations are words. -/
def Wd15 (l : List (Int × Bool)) : Prop := ∀ (k : Nat) (e : Int) (b : Bool), l[k]? = some (e, b) → 0 ≤ e ∧ e ≤ 65535
theorem Wd15.set {l : List (Int × Bool)} (h : Wd15 l) {i : Nat} {e : Int} {b : Bool} (h0 : 0 ≤ e) (h1 : e ≤ 65535) : Wd15 (l.set i (e, b)) := by
  intro k e' b' hk
  rw [List.getElem?_set] at hk
  split at hk
  · split at hk
    · injection hk with hk
      injection hk with ha hb
      subst ha
      exact ⟨h0, h1⟩
    · cases hk
  · exact h k e' b' hk
structure GrAt (w : World) (g : Nat) (l : List (Int × Bool)) : Prop where
  row : Row w g 113 (cells15 l)
  n0 : 1 ≤ l.length
  n64 : l.length ≤ 64
  gen : Wd15 l
theorem GrAt.only {S : Nat → Prop} {w w' : World} {g : Nat} {l : List (Int × Bool)} (r : GrAt w g l) (ho : Only S w w') (hn : ¬ S g) : GrAt w' g l :=
  ⟨r.row.only ho hn, r.n0, r.n64, r.gen⟩
theorem GrAt.below {w w' : World} {g : Nat} {l : List (Int × Bool)} (r : GrAt w g l) (hb : Below w.heap.size w w') : GrAt w' g l :=
  r.only (Only.of_below hb (fun _ => False)) (fun h => h)
theorem GrAt.putH {w : World} {g : Nat} {l : List (Int × Bool)} (r : GrAt w g l) {k : Nat} {e : Int} {b : Bool} (h : l[k]? = some (e, b)) (c : Bool) : GrAt (w.setCell ⟨g, 65 + k, none⟩ (.bool c)) g (l.set k (e, c)) :=
  ⟨by rw [← cells15_sh c r.n64 h]; exact r.row.put (65 + k) _, by simpa using r.n0, by simpa using r.n64, r.gen.set (r.gen k e b h).1 (r.gen k e b h).2⟩
theorem GrAt.putG {w : World} {g : Nat} {l : List (Int × Bool)} (r : GrAt w g l) {k : Nat} {e : Int} {b : Bool} (h : l[k]? = some (e, b)) (y : Int) (h0 : 0 ≤ y) (h1 : y ≤ 65535) : GrAt (w.setCell ⟨g, 1 + k, none⟩ (.int .i64 y)) g (l.set k (y, b)) :=
  ⟨by rw [← cells15_sg y r.n64 h]; exact r.row.put (1 + k) _, by simpa using r.n0, by simpa using r.n64, r.gen.set h0 h1⟩
theorem only_put15 (w : World) (g k : Nat) (u : Value) : Only (· = g) w (w.setCell ⟨g, k, none⟩ u) := (Only.refl (fun b => b = g) w).setCell (p := ⟨g, k, none⟩) (.inl rfl) u
/-- Slot number c. -/
def at15 (l : List (Int × Bool)) (c : Int) : Option (Int × Bool) := if 0 ≤ c then l[c.toNat]? else none
theorem at15_nat (l : List (Int × Bool)) (k : Nat) : at15 l (k : Int) = l[k]? := by simp [at15]
theorem at15_cases (l : List (Int × Bool)) (c : Int) : (at15 l c = none ∧ (c < 0 ∨ (l.length : Int) ≤ c)) ∨ ∃ (k : Nat) (e : Int) (b : Bool), c = k ∧ k < l.length ∧ l[k]? = some (e, b) := by
  by_cases h0 : c < 0
  · exact .inl ⟨by unfold at15; rw [if_neg (by omega)], .inl h0⟩
  · obtain ⟨k, rfl⟩ := Int.eq_ofNat_of_zero_le (show 0 ≤ c by omega)
    by_cases h1 : k < l.length
    · exact .inr ⟨k, _, _, rfl, h1, List.getElem?_eq_getElem h1⟩
    · exact .inl ⟨by rw [at15_nat]; exact List.getElem?_eq_none (by omega), .inr (by omega)⟩
/-- What calls tell, and what they make of the slots. -/
def isB15 (l : List (Int × Bool)) (c : Int) : Bool := (at15 l c).isSome
def giveL15 (l : List (Int × Bool)) (i : Int) : List (Int × Bool) := match at15 l i with | some (e, false) => l.set i.toNat (addW e 1, true) | _ => l
def giveV15 (l : List (Int × Bool)) (i : Int) : Int := match at15 l i with | some (e, false) => addW e 1 * 64 + i | _ => 0
def giveB15 (l : List (Int × Bool)) (i : Int) : Bool := match at15 l i with | some (_, false) => true | _ => false
def slotO15 (l : List (Int × Bool)) (h : Int) : Option Nat := match at15 l (h.tmod 64) with | some (e, true) => if e * 64 + h.tmod 64 = h then some (h.tmod 64).toNat else none | _ => none
def slotV15 (l : List (Int × Bool)) (h : Int) : Int := match slotO15 l h with | some k => (k : Int) | none => 0
def slotB15 (l : List (Int × Bool)) (h : Int) : Bool := (slotO15 l h).isSome
def offL15 (l : List (Int × Bool)) (k : Nat) : List (Int × Bool) := match l[k]? with | some (e, _) => l.set k (e, false) | none => l
def dropL15 (l : List (Int × Bool)) (h : Int) : List (Int × Bool) := match slotO15 l h with | some k => offL15 l k | none => l
def dropE15 (l : List (Int × Bool)) (h : Int) : Int := match slotO15 l h with | some _ => 0 | none => 7
def clearL15 (l : List (Int × Bool)) : List (Int × Bool) := l.map fun x => (x.1, false)
/-- A handle of a held slot is found. -/
theorem slotO15_yes {l : List (Int × Bool)} {k : Nat} {e : Int} (h : l[k]? = some (e, true)) (hk : k < 64) (he : 0 ≤ e) : slotO15 l (e * 64 + k) = some k := by
  have h1 : (e * 64 + (k : Int)).tmod 64 = k := by
    rw [Int.tmod_eq_emod_of_nonneg (by omega)]; omega
  unfold slotO15
  rw [h1, at15_nat, h]
  simp
/-- What is found is such a slot. -/
theorem slotO15_is {l : List (Int × Bool)} {h : Int} {k : Nat} (hs : slotO15 l h = some k) : ∃ e, l[k]? = some (e, true) ∧ e * 64 + k = h := by
  unfold slotO15 at hs
  rcases at15_cases l (h.tmod 64) with ⟨h1, _⟩ | ⟨j, e, b, hj, _, h1⟩
  · rw [h1] at hs; cases hs
  · rw [hj, at15_nat, h1] at hs
    cases b with
    | false => cases hs
    | true =>
      simp only at hs
      split at hs
      · rename_i he
        injection hs with hs
        rw [Int.toNat_natCast] at hs
        subst hs
        exact ⟨e, h1, he⟩
      · cases hs
set_option maxRecDepth 100000 in
set_option maxHeartbeats 1000000 in
theorem exists15_any (g : Nat) (l : List (Int × Bool)) (i : Int) (w : World) (r : GrAt w g l) :
    Calls Tryz.prog 57 #[ptr g, .int .i64 i] w fun e w' => e = .returned (.bool (isB15 l i)) ∧ w = w' := by
  have hc : w.cell? ⟨g, 0, none⟩ = some (.int .i64 l.length) := r.row.cell 0
  clear r
  obtain ⟨n, hn⟩ : ∃ n, l.length = n := ⟨_, rfl⟩
  rcases at15_cases l i with ⟨h, h0⟩ | ⟨k, e, b, rfl, hk, h⟩
  · have e : Hid (isB15 l i = false) := Lib.hid (by unfold isB15; rw [h]; rfl)
    rw [hn] at hc h0
    clear h hn
    unfold ptr
    by_cases h1 : 0 ≤ i
    · have h2 : decide (i < (n : Int)) = false := by simp; omega
      clear h0
      go_enter Tryz.func57, Tryz.ntmps57
      go_wp2
      go_ret
      exact ⟨by rw [e.out]; rfl, rfl⟩
    · have h2 : decide (0 ≤ i) = false := by simpa using h1
      clear h0 h1
      go_enter Tryz.func57, Tryz.ntmps57
      go_wp2
      go_ret
      exact ⟨by rw [e.out]; rfl, rfl⟩
  · have e : Hid (isB15 l k = true) := Lib.hid (by unfold isB15; rw [at15_nat, h]; rfl)
    rw [hn] at hc hk
    have h1 : (0 : Int) ≤ (k : Int) := by omega
    have h2 : (k : Int) < (n : Int) := by omega
    clear h hn
    unfold ptr
    go_enter Tryz.func57, Tryz.ntmps57
    go_wp2
    go_ret
    exact ⟨by rw [e.out]; rfl, rfl⟩
set_option maxRecDepth 100000 in
set_option maxHeartbeats 400000 in
theorem handle15_any (g : Nat) (l : List (Int × Bool)) (k : Nat) (e : Int) (b : Bool) (w : World) (r : GrAt w g l) (h : l[k]? = some (e, b)) :
    Calls Tryz.prog 58 #[ptr g, .int .i64 (k : Int)] w fun x w' => x = .returned (.int .i64 (e * 64 + k)) ∧ w = w' := by
  have hc : w.cell? ⟨g, 1 + k, none⟩ = some (.int .i64 e) := (r.row.cell (1 + k)).trans (cells15_g r.n64 h)
  have h64 : k < 64 := by have := r.n64; have := lt_of_at h; omega
  obtain ⟨e0, e1⟩ := r.gen k e b h
  have b1 : (k : Int) < 64 := by omega
  have b2 : (0 : Int) ≤ (k : Int) := by omega
  clear r h
  unfold ptr
  go_enter Tryz.func58, Tryz.ntmps58
  go_wp2
  go_ret
  exact ⟨rfl, rfl⟩
/-- What New and Clone leave. -/
def Made15 (l : List (Int × Bool)) (w : World) (e : Ending) (w' : World) : Prop := ∃ g, e = .returned (ptr g) ∧ GrAt w' g l ∧ w.heap.size ≤ g ∧ Below w.heap.size w w'
def new15 (C : Nat) : List (Int × Bool) := List.replicate C (0, false)
theorem new15_cells {C : Nat} (h : C ≤ 64) : cells15 (new15 C) = .int .i64 C :: (List.replicate 64 (.int .i64 0) ++ List.replicate 64 (.bool false)) := by
  have : pad15 (new15 C) = List.replicate 64 (0, false) := by
    unfold pad15 new15
    rw [List.length_replicate, List.replicate_append_replicate, show C + (64 - C) = 64 from by omega]
  rw [cells15, this]
  simp [new15, gv15, hv15]
theorem new15_wd (C : Nat) : Wd15 (new15 C) := by
  intro k e b h
  unfold new15 at h
  rw [List.getElem?_replicate] at h
  split at h
  · injection h with h
    injection h with h1 h2
    omega
  · cases h
theorem table15_zero : (Tryz.prog.info? 113).map (·.zero) = some (some (.agg (cells15 []).toArray)) := by kernel_rfl
theorem table15_zeroV (W : World) : (zeroValue 113).run Tryz.prog W = .ok (.agg (cells15 []).toArray) W := by
  obtain ⟨i, hi, hiz⟩ := Option.map_eq_some_iff.1 table15_zero
  simp [zeroValue, typeInfo, hi, hiz]
set_option maxRecDepth 100000 in
set_option maxHeartbeats 4000000 in
theorem new15_yes (C : Nat) (w : World) (c0 : 1 ≤ C) (c64 : C ≤ 64) :
    Calls Tryz.prog 52 #[.int .i64 (C : Int)] w (Made15 (new15 C) w) := by
  have g1 : ¬ ((C : Int) < 1) := by omega
  have g2 : ¬ (64 < (C : Int)) := by omega
  have zv := table15_zeroV
  rw [show cells15 [] = cells15 (new15 0) from rfl, new15_cells (by omega)] at zv
  have NC := Lib.hid (new15_cells c64)
  obtain ⟨rest, hrest⟩ : ∃ rest, (List.replicate 64 (Value.int .i64 0) ++ List.replicate 64 (Value.bool false)) = rest := ⟨_, rfl⟩
  rw [hrest] at zv NC
  clear hrest
  go_enter Tryz.func52, Tryz.ntmps52
  go_wp2
  go_ret
  refine ⟨w.heap.size, rfl, ⟨?_, by simpa [new15] using c0, by simpa [new15] using c64, new15_wd C⟩, Nat.le_refl _, below_al _ _⟩
  rw [NC.out]
  exact Row.new w 113 _
end

section
open Go.ChangeShapes Go.WideShapes Go.ChangeAt Go.RowKit
/-- What a writing call leaves: its answer, the new slots. -/
def GrP (g : Nat) (l' : List (Int × Bool)) (v : Value) (w : World) (e : Ending) (w' : World) : Prop := e = .returned v ∧ GrAt w' g l' ∧ Only (· = g) w w'
set_option maxRecDepth 100000 in
set_option maxHeartbeats 4000000 in
theorem give15_any (g : Nat) (l : List (Int × Bool)) (i : Int) (w : World) (r : GrAt w g l) :
    Calls Tryz.prog 85 #[ptr g, .int .i64 i] w (GrP g (giveL15 l i) (.tuple #[.int .i64 (giveV15 l i), .bool (giveB15 l i)]) w) := by
  have k1 := Lib.hid (exists15_any g l i w r)
  unfold ptr at k1 ⊢
  rcases at15_cases l i with ⟨h, h0⟩ | ⟨k, e, b, rfl, hk, h⟩
  · rw [show isB15 l i = false from by unfold isB15; rw [h]; rfl] at k1
    rw [show giveL15 l i = l from by unfold giveL15; rw [h], show giveV15 l i = 0 from by unfold giveV15; rw [h], show giveB15 l i = false from by unfold giveB15; rw [h]]
    have R := Lib.hid r
    clear h h0 r
    go_enter Tryz.func85, Tryz.ntmps85
    go_wp2_with fail
    refine k1.out.mono ?_
    rintro e w' ⟨rfl, rfl⟩
    go_wp2
    go_ret2
    exact ⟨rfl, R.out, Only.refl _ _⟩
  · rw [show isB15 l k = true from by unfold isB15; rw [at15_nat, h]; rfl] at k1
    have hc : w.cell? ⟨g, 65 + k, none⟩ = some (.bool b) := (r.row.cell (65 + k)).trans (cells15_h r.n64 h)
    have h64 : k < 64 := by have := r.n64; omega
    cases b with
    | true =>
      rw [show giveL15 l k = l from by unfold giveL15; rw [at15_nat, h], show giveV15 l k = 0 from by unfold giveV15; rw [at15_nat, h], show giveB15 l k = false from by unfold giveB15; rw [at15_nat, h]]
      have R := Lib.hid r
      clear h hk r
      go_enter Tryz.func85, Tryz.ntmps85
      go_wp2_with fail
      refine k1.out.mono ?_
      rintro e w' ⟨rfl, rfl⟩
      go_wp2
      go_ret2
      exact ⟨rfl, R.out, Only.refl _ _⟩
    | false =>
      rw [show giveL15 l k = l.set k (addW e 1, true) from by unfold giveL15; rw [at15_nat, h]; rfl, show giveV15 l k = addW e 1 * 64 + k from by unfold giveV15; rw [at15_nat, h], show giveB15 l k = true from by unfold giveB15; rw [at15_nat, h]]
      have ce : w.cell? ⟨g, 1 + k, none⟩ = some (.int .i64 e) := (r.row.cell (1 + k)).trans (cells15_g r.n64 h)
      have fe := r.row.soft (1 + k)
      have fc := r.row.soft (65 + k)
      obtain ⟨a0, a1⟩ := addW_bd e 1
      have h1 : (l.set k (addW e 1, false))[k]? = some (addW e 1, false) := by simp [hk]
      have e2 : (l.set k (addW e 1, false)).set k (addW e 1, true) = l.set k (addW e 1, true) := by rw [List.set_set]
      have R1 : ∀ n, GrAt ((w.drewN n).setCell ⟨g, 1 + k, none⟩ (.int .i64 (addW e 1))) g (l.set k (addW e 1, false)) := fun n => (show GrAt (w.drewN n) g l from r.below (below_q _ _)).putG h (addW e 1) a0 a1
      have R2 : ∀ n, GrAt (((w.drewN n).setCell ⟨g, 1 + k, none⟩ (.int .i64 (addW e 1))).setCell ⟨g, 65 + k, none⟩ (.bool true)) g (l.set k (addW e 1, true)) := fun n => by rw [← e2]; exact (R1 n).putH h1 true
      have HD := Lib.hid (fun n => handle15_any g _ k (addW e 1) true _ (R2 n) (by simp [hk]))
      have RR := Lib.hid R2
      have OO : Hid (∀ n, Only (· = g) w (((w.drewN n).setCell ⟨g, 1 + k, none⟩ (.int .i64 (addW e 1))).setCell ⟨g, 65 + k, none⟩ (.bool true))) := Lib.hid (fun n => (((Only.refl _ w).drewN n).trans (only_put15 _ g _ _)).trans (only_put15 _ g _ _))
      unfold ptr at HD
      have AD := Lib.hid (fun W => add_any e 1 W)
      clear h hk r h1 e2 R1 R2
      go_enter Tryz.func85, Tryz.ntmps85
      go_wp2_with fail
      refine k1.out.mono ?_
      rintro e w' ⟨rfl, rfl⟩
      go_wp2
      go_region_with (go_at_call 79; refine (AD.out _).mono ?_; rintro e w' ⟨rfl, rfl⟩)
      all_goals go_wp2_with fail
      all_goals refine (HD.out _).mono ?_
      all_goals rintro e w' ⟨rfl, rfl⟩
      all_goals go_wp2
      all_goals go_ret2
      all_goals exact ⟨rfl, RR.out _, OO.out _⟩
set_option maxRecDepth 100000 in
set_option maxHeartbeats 4000000 in
theorem slot15_any (g : Nat) (l : List (Int × Bool)) (h : Int) (w : World) (r : GrAt w g l) :
    Calls Tryz.prog 36 #[ptr g, .int .i64 h] w fun e w' => e = .returned (.tuple #[.int .i64 (slotV15 l h), .bool (slotB15 l h)]) ∧ w = w' := by
  have b1 := Int.tmod_lt_of_pos h (show (0 : Int) < 64 by omega)
  have b2 : -64 < h.tmod 64 := by have := Int.tmod_lt_of_pos (-h) (show (0 : Int) < 64 by omega); rw [Int.neg_tmod] at this; omega
  obtain ⟨i, hi⟩ : ∃ i, h.tmod 64 = i := ⟨_, rfl⟩
  have k1 := Lib.hid (exists15_any g l i w r)
  unfold slotV15 slotB15 slotO15
  rw [hi] at b1 b2 ⊢
  unfold ptr at k1 ⊢
  rcases at15_cases l i with ⟨ha, h0⟩ | ⟨k, e, b, rfl, hk, ha⟩
  · rw [show isB15 l i = false from by unfold isB15; rw [ha]; rfl] at k1
    rw [ha]
    clear ha h0 r
    go_enter Tryz.func36, Tryz.ntmps36
    go_wp2_with fail
    refine k1.out.mono ?_
    rintro e w' ⟨rfl, rfl⟩
    go_wp2
    go_ret2
    exact ⟨rfl, rfl⟩
  · rw [show isB15 l k = true from by unfold isB15; rw [at15_nat, ha]; rfl] at k1
    have hc : w.cell? ⟨g, 65 + k, none⟩ = some (.bool b) := (r.row.cell (65 + k)).trans (cells15_h r.n64 ha)
    have h64 : k < 64 := by have := r.n64; omega
    have hd := Lib.hid (handle15_any g l k e b w r ha)
    unfold ptr at hd
    rw [at15_nat, ha]
    cases b with
    | false =>
      clear ha hk r hd
      go_enter Tryz.func36, Tryz.ntmps36
      go_wp2_with fail
      refine k1.out.mono ?_
      rintro e w' ⟨rfl, rfl⟩
      go_wp2
      go_ret2
      exact ⟨rfl, rfl⟩
    | true =>
      obtain ⟨H, hH⟩ : ∃ H, e * 64 + (k : Int) = H := ⟨_, rfl⟩
      dsimp only
      rw [hH] at hd ⊢
      by_cases hq : H = h
      · subst hq
        simp only [if_true]
        have hb : (H != H) = false := by simp
        clear ha hk r hH
        go_enter Tryz.func36, Tryz.ntmps36
        go_wp2_with fail
        refine k1.out.mono ?_
        rintro e w' ⟨rfl, rfl⟩
        go_wp2_with fail
        refine hd.out.mono ?_
        rintro e w' ⟨rfl, rfl⟩
        go_wp2
        go_ret2
        exact ⟨by simp, rfl⟩
      · simp only [if_neg hq]
        have hb : (H != h) = true := by simpa using hq
        clear ha hk r hH hq
        go_enter Tryz.func36, Tryz.ntmps36
        go_wp2_with fail
        refine k1.out.mono ?_
        rintro e w' ⟨rfl, rfl⟩
        go_wp2_with fail
        refine hd.out.mono ?_
        rintro e w' ⟨rfl, rfl⟩
        go_wp2
        go_ret2
        exact ⟨rfl, rfl⟩
set_option maxRecDepth 100000 in
set_option maxHeartbeats 2000000 in
theorem drop15_any (g : Nat) (l : List (Int × Bool)) (h : Int) (w : World) (r : GrAt w g l) :
    Calls Tryz.prog 37 #[ptr g, .int .i64 h] w (GrP g (dropL15 l h) (.int .i64 (dropE15 l h)) w) := by
  have k1 := Lib.hid (slot15_any g l h w r)
  unfold slotV15 slotB15 at k1
  unfold dropL15 dropE15
  unfold ptr at k1 ⊢
  cases hs : slotO15 l h with
  | none =>
    rw [hs] at k1
    have R := Lib.hid r
    clear hs r
    go_enter Tryz.func37, Tryz.ntmps37
    go_wp2_with fail
    refine k1.out.mono ?_
    rintro e w' ⟨rfl, rfl⟩
    go_wp2
    go_ret
    exact ⟨rfl, R.out, Only.refl _ _⟩
  | some k =>
    rw [hs] at k1
    obtain ⟨e, ha, -⟩ := slotO15_is hs
    have hk := lt_of_at ha
    simp only [offL15, ha]
    have hc : w.cell? ⟨g, 65 + k, none⟩ = some (.bool true) := (r.row.cell (65 + k)).trans (cells15_h r.n64 ha)
    have fc := r.row.soft (65 + k)
    have h64 : k < 64 := by have := r.n64; omega
    have R := Lib.hid (r.putH ha false)
    clear hs ha hk r
    go_enter Tryz.func37, Tryz.ntmps37
    go_wp2_with fail
    refine k1.out.mono ?_
    rintro e w' ⟨rfl, rfl⟩
    go_wp2
    go_ret
    exact ⟨rfl, R.out, only_put15 _ _ _ _⟩
end

end Go.Proofs.YtiofipofbeodpaaGreatDoor
