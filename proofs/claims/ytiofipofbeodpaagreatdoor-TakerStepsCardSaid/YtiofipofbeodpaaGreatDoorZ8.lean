/-
  Texts merged, with what one theorem needs of them.
  Conditions: those that each theorem states.
-/
import Derived.Test.YtiofipofbeodpaaGreatDoorRows
import Derived.Test.YtiofipofbeodpaaGreatDoorZ1
import Derived.Test.YtiofipofbeodpaaGreatDoorZ2
import Derived.Test.YtiofipofbeodpaaGreatDoorZ3
import Derived.Test.YtiofipofbeodpaaGreatDoorZ7
import Derived.Below
import Derived.BigQuiet
import Derived.Deep.AppendLies
import Derived.Deep.Draws
import Derived.Deep.OwnRows
import Derived.Deep.QuietTactic
import Derived.Handy
import Derived.IntWalk
import Derived.Laws.BitsLemmas
import Derived.Laws.CopyOwn
import Derived.Laws.OwnMore
import Derived.Laws.Rows
import Derived.Lib.Hide
import Derived.Maps.AppendAt
import Derived.OpenShut
import Derived.ProofKit
import Derived.RegionTactic
import Derived.WalkKit
namespace Go.Proofs.YtiofipofbeodpaaGreatDoor

section
open Go.ChangeShapes Go.WideShapes Go.ChangeAt Go.RowKit
/-- Whether a list has a place. -/
def in14 (l : List Int) (i : Int) : Bool := decide (0 ≤ i ∧ i < l.length)
/-- The number at a place; 0 where there is none. -/
def nth14 (l : List Int) (i : Int) : Int := if in14 l i then l.getD i.toNat 0 else 0
/-- The list with a number put at a place, if there is one. -/
def put14 (l : List Int) (i x : Int) : List Int := if in14 l i then l.set i.toNat x else l
/-- The words of numbers. -/
def mod14 (l : List Int) : List Int := l.map (· % 65536)
theorem put14_len (l : List Int) (i x : Int) : (put14 l i x).length = l.length := by unfold put14; split <;> simp
theorem mod14_len (l : List Int) : (mod14 l).length = l.length := by simp [mod14]
theorem nth14_out {l : List Int} {i : Int} (h : in14 l i = false) : nth14 l i = 0 := by unfold nth14; rw [h]; rfl
theorem put14_out {l : List Int} {i : Int} (x : Int) (h : in14 l i = false) : put14 l i x = l := by unfold put14; rw [h]; rfl
theorem in14_at {l : List Int} {i : Int} (h : in14 l i = true) : ∃ (k : Nat) (x : Int), i = k ∧ l[k]? = some x ∧ k < l.length ∧ nth14 l i = x ∧ ∀ y, put14 l i y = l.set k y := by
  have h' : 0 ≤ i ∧ i < l.length := by simpa [in14] using h
  obtain ⟨k, rfl⟩ := Int.eq_ofNat_of_zero_le h'.1
  have hk : k < l.length := by omega
  refine ⟨k, l[k], rfl, List.getElem?_eq_getElem hk, hk, ?_, fun y => ?_⟩
  · unfold nth14
    rw [h]
    simp [List.getD_eq_getElem?_getD, List.getElem?_eq_getElem hk]
  · unfold put14
    rw [h]
    simp
theorem in14_no {l : List Int} {i : Int} (h : in14 l i = false) : i < 0 ∨ (0 ≤ i ∧ (l.length : Int) ≤ i) := by
  have h' : ¬ (0 ≤ i ∧ i < l.length) := by simpa [in14] using h
  omega
theorem mod14_fix {l : List Int} (h : ∀ x ∈ l, 0 ≤ x ∧ x ≤ 65535) : mod14 l = l := by
  unfold mod14
  conv => rhs; rw [← List.map_id l]
  refine List.map_congr_left fun x hx => ?_
  have := h x hx
  show x % 65536 = x
  omega
theorem mod14_bd (l : List Int) : ∀ x ∈ mod14 l, 0 ≤ x ∧ x ≤ 65535 := by
  intro x hx
  obtain ⟨y, _, rfl⟩ := List.mem_map.1 hx
  show 0 ≤ y % 65536 ∧ y % 65536 ≤ 65535
  omega
theorem mod14_more {l : List Int} {k : Nat} {x : Int} (h : l[k]? = some x) : mod14 (l.take (k + 1)) = mod14 (l.take k) ++ [x % 65536] := by
  unfold mod14
  rw [List.take_add_one, h]
  simp
/-- A list's slice, written out; what else is known of it stays hidden. -/
theorem lies_open {w : World} {P : Nat → Prop} {v : Value} {q : List Int} (h : Lies w P v (ints q)) : ∃ A n c, v = .slice A n c ∧ Hid (q.length = n) ∧ Hid (Lies w P (.slice A n c) (ints q)) := by
  have h0 := h
  obtain ⟨A, c, rfl, _⟩ := h
  exact ⟨A, _, c, rfl, (ints_len q).symm, h0⟩
theorem lies_at {w : World} {P : Nat → Prop} {A : Option Addr} {n c k : Nat} {q : List Int} {x : Int} (h : Lies w P (.slice A n c) (ints q)) (hk : q[k]? = some x) : ∃ g o, A = some ⟨g, o, none⟩ ∧ P g ∧ g < w.heap.size ∧ w.cell? ⟨g, o + k, none⟩ = some (.int .i64 x) := by
  obtain ⟨A', c', hv, hA⟩ := h
  injection hv with e1 e2 e3
  subst e1
  have hlt : k < q.length := (List.getElem?_eq_some_iff.1 hk).1
  obtain ⟨g, o, rfl, hP, hg, hc⟩ := hA (by rw [ints_len]; omega)
  exact ⟨g, o, rfl, hP, hg, hc k _ (ints_some hk)⟩
set_option maxRecDepth 100000 in
set_option maxHeartbeats 400000 in
theorem has14_any (l : List Int) (A : Option Addr) (n c : Nat) (i : Int) (hn : l.length = n) (w : World) :
    Calls Tryz.prog 110 #[.slice A n c, .int .i64 i] w fun e w' => e = .returned (.bool (in14 l i)) ∧ w = w' := by
  have e : in14 l i = decide (0 ≤ i ∧ i < (n : Int)) := by unfold in14; rw [hn]
  have E := Lib.hid e; clear e
  by_cases h : 0 ≤ i
  · by_cases h2 : i < (n : Int)
    · have h3 : in14 l i = true := by rw [E.out]; simp; omega
      have H3 := Lib.hid h3; clear h3 E
      go_enter Tryz.func110, Tryz.ntmps110
      go_wp2
      go_ret
      exact ⟨by rw [H3.out]; rfl, rfl⟩
    · have h3 : in14 l i = false := by rw [E.out]; simp; omega
      have h' : decide (i < (n : Int)) = false := by simpa using h2
      have H3 := Lib.hid h3; clear h3 E
      go_enter Tryz.func110, Tryz.ntmps110
      go_wp2
      go_ret
      exact ⟨by rw [H3.out]; rfl, rfl⟩
  · have h3 : in14 l i = false := by rw [E.out]; simp; omega
    have h' : decide (0 ≤ i) = false := by simpa using h
    have H3 := Lib.hid h3; clear h3 E
    go_enter Tryz.func110, Tryz.ntmps110
    go_wp2
    go_ret
    exact ⟨by rw [H3.out]; rfl, rfl⟩
set_option maxRecDepth 100000 in
set_option maxHeartbeats 400000 in
theorem pick14_any (P : Nat → Prop) (l : List Int) (v : Value) (i : Int) (w : World) (hv : Lies w P v (ints l)) :
    Calls Tryz.prog 109 #[v, .int .i64 i] w fun e w' => e = .returned (.int .i64 (nth14 l i)) ∧ w = w' := by
  obtain ⟨A, n, c, rfl, HN, HV⟩ := lies_open hv
  clear hv
  cases h : in14 l i with
  | false =>
    have E := Lib.hid (nth14_out h)
    have H := Lib.hid h; clear h
    go_enter Tryz.func109, Tryz.ntmps109
    go_wp2_with (go_at_call 110; refine (has14_any l A n c i HN.out _).mono ?_; rw [H.out]; rintro e w' ⟨rfl, rfl⟩)
    go_ret
    exact ⟨by rw [E.out]; rfl, rfl⟩
  | true =>
    obtain ⟨k, x, rfl, hx, hk, e, _⟩ := in14_at h
    obtain ⟨g, o, rfl, _, hg, hc⟩ := lies_at HV.out hx
    rw [HN.out] at hk
    have E := Lib.hid e
    have H := Lib.hid h; clear h e hx
    have hk' : (k : Int) < (n : Int) := by omega
    go_enter Tryz.func109, Tryz.ntmps109
    go_wp2_with (go_at_call 110; refine (has14_any l _ n c (k : Int) HN.out _).mono ?_; rw [H.out]; rintro e w' ⟨rfl, rfl⟩)
    go_ret
    exact ⟨by rw [E.out]; rfl, rfl⟩
set_option maxRecDepth 100000 in
set_option maxHeartbeats 400000 in
theorem get14_any (P : Nat → Prop) (l : List Int) (v : Value) (i : Int) (w : World) (hv : Lies w P v (ints l)) :
    Calls Tryz.prog 59 #[v, .int .i64 i] w fun e w' => e = .returned (.int .i64 (nth14 l i)) ∧ w = w' := by
  obtain ⟨A, n, c, rfl, HN, HV⟩ := lies_open hv
  clear hv
  cases h : in14 l i with
  | false =>
    have E := Lib.hid (nth14_out h)
    have h0 := in14_no h
    rw [HN.out] at h0
    clear h
    rcases h0 with h0 | ⟨h0, h1⟩
    · go_enter Tryz.func59, Tryz.ntmps59
      go_wp2
      go_ret
      exact ⟨by rw [E.out]; rfl, rfl⟩
    · have h2 : decide (i < 0) = false := by simp; omega
      go_enter Tryz.func59, Tryz.ntmps59
      go_wp2
      go_ret
      exact ⟨by rw [E.out]; rfl, rfl⟩
  | true =>
    obtain ⟨k, x, rfl, hx, hk, e, _⟩ := in14_at h
    obtain ⟨g, o, rfl, _, hg, hc⟩ := lies_at HV.out hx
    rw [HN.out] at hk
    have E := Lib.hid e
    clear h e hx
    have hk' : (k : Int) < (n : Int) := by omega
    have hk2 : decide ((n : Int) ≤ (k : Int)) = false := by simp; omega
    have hk3 : decide (n ≤ k) = false := by simp; omega
    go_enter Tryz.func59, Tryz.ntmps59
    go_wp2
    go_ret
    exact ⟨by rw [E.out]; rfl, rfl⟩
end

end Go.Proofs.YtiofipofbeodpaaGreatDoor
