/-
  Contracts of layer 3: Cells, and cell.Same at equal lists.
  Conditions: those that each theorem states.
-/
import Derived.Test.YtgoogclcpnfmkaaRam4
import Derived.Test.YtgoogclcpnfmkaaCell
import Derived.WalkLawsBesides
namespace Go.Proofs.Ytgoogclcpnfmkaa
open Go.ChangeShapes Go.WideShapes Go.ChangeAt Go.RowKit

theorem cplx_info : (Try.prog.info? 112).map (fun i => (i.zero, i.size, i.bytes)) = some (some (.complex .f64 0 0), 1, 16) := by kernel_rfl

/-- The cells of the first k words that are not 0. -/
def cellsK (l : List Int) : Nat → List Value
  | 0 => []
  | k + 1 => cellsK l k ++ (if l.getD k 0 = 0 then [] else [cellV k (l.getD k 0)])
theorem cellsK_len (l : List Int) (k : Nat) : (cellsK l k).length ≤ k := by
  induction k with
  | zero => simp [cellsK]
  | succ k ih => simp only [cellsK, List.length_append]; split <;> simp <;> omega
theorem cellsK_skip {l : List Int} {k : Nat} (h : l[k]? = some 0) : cellsK l (k + 1) = cellsK l k := by
  simp [cellsK, h]
theorem cellsK_more {l : List Int} {k : Nat} {x : Int} (h : l[k]? = some x) (hx : x ≠ 0) : cellsK l (k + 1) = cellsK l k ++ [cellV k x] := by
  simp [cellsK, h, hx]

/-- What a call leaves that returns a new list. -/
def NewP (xs : List Value) (w : World) (e : Ending) (w' : World) : Prop :=
  ∃ v, e = .returned v ∧ Lies w' (w.heap.size ≤ ·) v xs ∧ Below w.heap.size w w'

/-- A complex number whose parts are equal to themselves (no NaN). -/
def Selfish (x : Value) : Prop := ∃ a b : Nat, x = .complex .f64 a b ∧ (FloatKind.f64.format.order a a == some .eq) = true ∧ (FloatKind.f64.format.order b b == some .eq) = true

set_option maxRecDepth 100000 in
set_option maxHeartbeats 1000000 in
theorem equalC_quiet (P Q : Nat → Prop) (v u : Value) (x : List Value) (w : World) (hv : Lies w P v x) (hu : Lies w Q u x) (hx : x.length ≤ 65536) (hs : ∀ c ∈ x, Selfish c) :
    Calls Try.prog 86 #[v, u] w fun e w' => e = .returned (.bool true) ∧ ∃ m, w' = w.drewN m := by
  obtain ⟨A, c, rfl, hA⟩ := hv
  obtain ⟨B, d, rfl, hB⟩ := hu
  obtain ⟨n, hn⟩ : ∃ n, x.length = n := ⟨_, rfl⟩
  rw [hn] at hA hB hx ⊢
  have HA := Lib.hid hA; clear hA
  have HB := Lib.hid hB; clear hB
  have HN := Lib.hid hn; clear hn
  have HS := Lib.hid hs; clear hs
  go_enter Try.func86, Try.ntmps86
  go_wp2
  go_loopw [13] (fun i wr => ∃ k : Nat, k ≤ n ∧ i = .int .i64 k ∧ Hid (∃ q, wr = w.drewN q)) (fun i _ => n - (intOf i).toNat)
  case atStart => exact ⟨0, Nat.zero_le _, rfl, Lib.hid ⟨0, rfl⟩⟩
  case round =>
    obtain ⟨k, hk, rfl, hq⟩ := hrel
    obtain ⟨q, rfl⟩ := hq.out
    by_cases hlt : k < n
    · obtain ⟨g, o, rfl, hP, hg, hc⟩ := HA.out (by omega)
      obtain ⟨g', o', rfl, hQ, hg', hc'⟩ := HB.out (by omega)
      obtain ⟨z, hz⟩ : ∃ z, x[k]? = some z := ⟨_, List.getElem?_eq_getElem (by rw [HN.out]; exact hlt)⟩
      obtain ⟨a, b, rfl, ha, hb⟩ := HS.out z (List.mem_of_getElem? hz)
      have c1 := hc k _ hz
      have c2 := hc' k _ hz
      clear hz hc hc'
      go_wp2
      go_quiet (fail)
      go_wp2
      go_roundw
      case rel => exact ⟨k + 1, by omega, by go_num, Lib.hid ⟨_, rfl⟩⟩
      case measure => simp [intOf]; omega
    · obtain rfl : k = n := by omega
      go_wp2
      go_ret
      exact ⟨rfl, _, rfl⟩

set_option maxRecDepth 100000 in
set_option maxHeartbeats 400000 in
theorem cellSame_any (P Q : Nat → Prop) (v u : Value) (x : List Value) (w : World) (hv : Lies w P v x) (hu : Lies w Q u x) (hx : x.length ≤ 65536) (hs : ∀ c ∈ x, Selfish c) :
    Calls Try.prog 78 #[v, u] w fun e w' => e = .returned (.bool true) ∧ Below w.heap.size w w' := by
  have eq := Lib.hid (equalC_quiet P Q v u x w hv hu hx hs)
  go_enter Try.func78, Try.ntmps78
  go_wp2_with (go_at_call 86; refine eq.out.mono ?_; rintro e w' ⟨rfl, m, rfl⟩)
  go_ret
  exact ⟨rfl, below_q w m⟩

theorem cellsK_selfish (l : List Int) (k : Nat) (hk : k ≤ 65536) (hw : ∀ x ∈ l, 0 ≤ x ∧ x ≤ 65535) : ∀ c ∈ cellsK l k, Selfish c := by
  induction k with
  | zero => intro c hc; cases hc
  | succ k ih =>
    intro c hc
    simp only [cellsK, List.mem_append] at hc
    rcases hc with hc | hc
    · exact ih (by omega) c hc
    · by_cases h0 : l.getD k 0 = 0
      · rw [if_pos h0] at hc; cases hc
      · rw [if_neg h0, List.mem_singleton] at hc
        subst hc
        have hin : l.getD k 0 ∈ l := by
          rw [List.getD_eq_getElem?_getD] at h0 ⊢
          cases hq : l[k]? with
          | none => rw [hq] at h0; exact absurd rfl h0
          | some y => exact List.mem_of_getElem? hq
        obtain ⟨h1, h2⟩ := hw _ hin
        exact ⟨_, _, rfl, fl_self k (by omega) (by omega), fl_self _ h1 h2⟩

#print axioms cellSame_any
#print axioms cellsK_selfish
end Go.Proofs.Ytgoogclcpnfmkaa
