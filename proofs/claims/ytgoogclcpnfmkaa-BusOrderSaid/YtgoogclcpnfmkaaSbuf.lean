/-
  Lists of stores (numbers of their own), and contracts of cell.Find and cell.Same at lists of cells.
  Conditions: those that each theorem states.
-/
import Derived.Test.YtgoogclcpnfmkaaCell
import Derived.Test.YtgoogclcpnfmkaaCellLaw
import Derived.Test.YtgoogclcpnfmkaaTwo
namespace Go.Proofs.Ytgoogclcpnfmkaa
open Go.ChangeShapes Go.WideShapes Go.ChangeAt Go.RowKit

/-- Stores as cells, as records of two integers, as records of two floats. -/
def cvs (q : List (Int × Int)) : List Value := q.map fun p => cellV p.1 p.2
def sts (q : List (Int × Int)) : List (Value × Value) := q.map fun p => (.int .i64 p.1, .int .i64 p.2)
def fls (q : List (Int × Int)) : List (Value × Value) := q.map fun p => (.float .f64 (floatOfInt .f64 p.1), .float .f64 (floatOfInt .f64 p.2))
theorem cvs_len (q : List (Int × Int)) : (cvs q).length = q.length := by simp [cvs]
theorem sts_len (q : List (Int × Int)) : (sts q).length = q.length := by simp [sts]
theorem fls_len (q : List (Int × Int)) : (fls q).length = q.length := by simp [fls]
theorem cvs_at {q : List (Int × Int)} {k : Nat} {p : Int × Int} (h : q[k]? = some p) : (cvs q)[k]? = some (cellV p.1 p.2) := by simp [cvs, h]
theorem sts_at {q : List (Int × Int)} {k : Nat} {p : Int × Int} (h : q[k]? = some p) : (sts q)[k]? = some (.int .i64 p.1, .int .i64 p.2) := by simp [sts, h]
theorem fls_at {q : List (Int × Int)} {k : Nat} {p : Int × Int} (h : q[k]? = some p) : (fls q)[k]? = some (.float .f64 (floatOfInt .f64 p.1), .float .f64 (floatOfInt .f64 p.2)) := by simp [fls, h]
theorem cvs_append (a b : List (Int × Int)) : cvs (a ++ b) = cvs a ++ cvs b := by simp [cvs]
theorem sts_append (a b : List (Int × Int)) : sts (a ++ b) = sts a ++ sts b := by simp [sts]
theorem fls_append (a b : List (Int × Int)) : fls (a ++ b) = fls a ++ fls b := by simp [fls]
theorem sts_drop (k : Nat) (q : List (Int × Int)) : (sts q).drop k = sts (q.drop k) := by simp [sts]
theorem cvs_one (q : List (Int × Int)) : ∀ v ∈ cvs q, v.oneCell' = true := by
  intro v hv
  obtain ⟨x, _, rfl⟩ := List.mem_map.1 hv
  rfl
theorem sts_one : ∀ (q : List (Int × Int)), ∀ v ∈ flat (sts q), v.oneCell' = true
  | [], v, hv => by simp [sts, flat] at hv
  | p :: q, v, hv => by
    simp only [sts, List.map_cons, flat, List.mem_cons] at hv
    rcases hv with rfl | rfl | hv
    · rfl
    · rfl
    · exact sts_one q v hv

/-- All stores are cells: both numbers are words. -/
def okC (a b : Int) : Prop := 0 ≤ a ∧ a ≤ 65535 ∧ 0 ≤ b ∧ b ≤ 65535
def Good (q : List (Int × Int)) : Prop := ∀ p ∈ q, okC p.1 p.2
theorem Good.at {q : List (Int × Int)} (h : Good q) {k : Nat} {p : Int × Int} (hk : q[k]? = some p) : okC p.1 p.2 := h p (List.mem_of_getElem? hk)
theorem Good.snoc {q : List (Int × Int)} (h : Good q) {a b : Int} (hk : okC a b) : Good (q ++ [(a, b)]) := by
  intro p hp
  rcases List.mem_append.1 hp with hp | hp
  · exact h p hp
  · simp at hp; subst hp; exact hk
theorem Good.tail {p : Int × Int} {q : List (Int × Int)} (h : Good (p :: q)) : Good q := fun x hx => h x (List.mem_cons_of_mem _ hx)
theorem Good.nil : Good [] := fun _ h => by simp at h

/-- The word of the most recent store at an address. -/
def fnd (q : List (Int × Int)) (a : Int) : Option Int := q.foldl (fun r p => if p.1 = a then some p.2 else r) none
def fV (o : Option Int) : Int := o.getD 0
def fB (o : Option Int) : Bool := o.isSome
theorem fnd_snoc (q : List (Int × Int)) (p : Int × Int) (a : Int) : fnd (q ++ [p]) a = if p.1 = a then some p.2 else fnd q a := by simp [fnd]
theorem fnd_take {q : List (Int × Int)} {k : Nat} {p : Int × Int} (h : q[k]? = some p) (a : Int) : fnd (q.take (k + 1)) a = if p.1 = a then some p.2 else fnd (q.take k) a := by
  rw [List.take_add_one, h]
  exact fnd_snoc _ _ _
theorem fnd_yes {q : List (Int × Int)} {k : Nat} {p : Int × Int} (h : q[k]? = some p) {a : Int} (e : p.1 = a) : fnd (q.take (k + 1)) a = some p.2 := by rw [fnd_take h, if_pos e]
theorem fnd_no {q : List (Int × Int)} {k : Nat} {p : Int × Int} (h : q[k]? = some p) {a : Int} (e : p.1 ≠ a) : fnd (q.take (k + 1)) a = fnd (q.take k) a := by rw [fnd_take h, if_neg e]

set_option maxRecDepth 100000 in
set_option maxHeartbeats 1000000 in
theorem cfind_any (P : Nat → Prop) (v : Value) (q : List (Int × Int)) (a : Int) (w : World) (hv : Lies w P v (cvs q)) (hg : Good q) (hq : q.length ≤ 65536) :
    Calls Try.prog 82 #[v, .int .i64 a] w fun e w' => e = .returned (.tuple #[.int .i64 (fV (fnd q a)), .bool (fB (fnd q a))]) ∧ w = w' := by
  obtain ⟨A, c, rfl, hA⟩ := hv
  rw [cvs_len] at hA ⊢
  obtain ⟨n, hn⟩ : ∃ n, q.length = n := ⟨_, rfl⟩
  rw [hn] at hA hq ⊢
  have HA := Lib.hid hA; clear hA
  have HN := Lib.hid hn; clear hn
  have HG := Lib.hid hg; clear hg
  go_enter Try.func82, Try.ntmps82
  go_wp2
  go_loopw [6] (fun i wr => ∃ (k : Nat) (z : Int), k ≤ n ∧ z = (k : Int) - 1 ∧ i = .int .i64 z ∧ Hid (fnd q a = fnd (q.take k) a) ∧ w = wr) (fun i _ => (intOf i + 1).toNat)
  case atStart => exact ⟨n, _, Nat.le_refl _, rfl, by go_num, Lib.hid (by rw [← HN.out, List.take_length]), rfl⟩
  case round =>
    obtain ⟨k, z, hk, hz, rfl, ht, rfl⟩ := hrel
    cases k with
    | zero =>
      have hz1 : z = -1 := by omega
      subst hz1
      have hfin : fnd q a = none := ht.out.trans (by simp [fnd])
      have HF := Lib.hid hfin
      clear hfin hz
      go_wp2
      go_ret2
      exact ⟨by rw [HF.out]; rfl, rfl⟩
    | succ j =>
      have hz1 : z = (j : Int) := by omega
      subst hz1
      clear hz
      obtain ⟨g, o, rfl, hP, hlt, hc⟩ := HA.out (by omega)
      obtain ⟨p, hp⟩ : ∃ p, q[j]? = some p := ⟨_, List.getElem?_eq_getElem (by rw [HN.out]; omega)⟩
      have hcell : w.cell? ⟨g, o + j, none⟩ = some (cellV p.1 p.2) := hc j _ (cvs_at hp)
      obtain ⟨b1, b2, b3, b4⟩ := HG.out.at hp
      have HP := Lib.hid hp
      clear hp hc
      by_cases he : p.1 = a
      · have hb : (p.1 == a) = true := by simpa using he
        have hfin : fnd q a = some p.2 := ht.out.trans (fnd_yes HP.out he)
        have HF := Lib.hid hfin
        clear hfin he
        go_wp2_with (go_at_call 89; refine (parts_fl _ _ _ (by assumption) (by assumption) (by assumption) (by assumption)).mono ?_; rintro e w' ⟨rfl, rfl⟩)
        go_ret2
        exact ⟨by rw [HF.out]; rfl, rfl⟩
      · have hb : (p.1 == a) = false := by simpa using he
        have hfin : fnd q a = fnd (q.take j) a := ht.out.trans (fnd_no HP.out he)
        have HF := Lib.hid hfin
        clear hfin he
        go_wp2_with (go_at_call 89; refine (parts_fl _ _ _ (by assumption) (by assumption) (by assumption) (by assumption)).mono ?_; rintro e w' ⟨rfl, rfl⟩)
        go_roundw
        case rel => exact ⟨j, _, by omega, rfl, by go_num, HF, trivial⟩
        case measure => simp [intOf]

set_option maxRecDepth 100000 in
set_option maxHeartbeats 1000000 in
theorem cequal_yes (P Q : Nat → Prop) (v u : Value) (q : List (Int × Int)) (w : World) (hv : Lies w P v (cvs q)) (hu : Lies w Q u (cvs q)) (hg : Good q) (hq : q.length ≤ 65536) :
    Calls Try.prog 86 #[v, u] w fun e w' => e = .returned (.bool true) ∧ ∃ m, w' = w.drewN m := by
  obtain ⟨A, c, rfl, hA⟩ := hv
  obtain ⟨B, d, rfl, hB⟩ := hu
  rw [cvs_len] at hA hB ⊢
  obtain ⟨n, hn⟩ : ∃ n, q.length = n := ⟨_, rfl⟩
  rw [hn] at hA hB hq ⊢
  have HA := Lib.hid hA; clear hA
  have HB := Lib.hid hB; clear hB
  have HN := Lib.hid hn; clear hn
  have HG := Lib.hid hg; clear hg
  have hne : ((n : Int) != (n : Int)) = false := by simp
  go_enter Try.func86, Try.ntmps86
  go_wp2
  go_loopw [13] (fun i wr => ∃ k : Nat, k ≤ n ∧ i = .int .i64 k ∧ Hid (∃ q, wr = w.drewN q)) (fun i _ => n - (intOf i).toNat)
  case atStart => exact ⟨0, Nat.zero_le _, rfl, Lib.hid ⟨0, rfl⟩⟩
  case round =>
    obtain ⟨k, hk, rfl, hm⟩ := hrel
    obtain ⟨m, rfl⟩ := hm.out
    by_cases hlt : k < n
    · obtain ⟨g, o, rfl, hP, hg, hc⟩ := HA.out (by omega)
      obtain ⟨g', o', rfl, hQ, hg', hc'⟩ := HB.out (by omega)
      obtain ⟨p, hp⟩ : ∃ p, q[k]? = some p := ⟨_, List.getElem?_eq_getElem (by rw [HN.out]; omega)⟩
      have c1 : w.cell? ⟨g, o + k, none⟩ = some (.complex .f64 (floatOfInt .f64 p.1) (floatOfInt .f64 p.2)) := hc k _ (cvs_at hp)
      have c2 : w.cell? ⟨g', o' + k, none⟩ = some (.complex .f64 (floatOfInt .f64 p.1) (floatOfInt .f64 p.2)) := hc' k _ (cvs_at hp)
      obtain ⟨b1, b2, b3, b4⟩ := HG.out.at hp
      have s1 := fl_self p.1 b1 b2
      have s2 := fl_self p.2 b3 b4
      clear hp hc hc'
      go_wp2
      go_quiet (fail)
      go_wp2
      go_roundw
      case rel => exact ⟨k + 1, by omega, by go_num, Lib.hid ⟨_, rfl⟩⟩
      case measure => simp [intOf]; omega
    · obtain rfl : k = n := by omega
      go_wp2
      go_ret
      exact ⟨rfl, _, rfl⟩

set_option maxRecDepth 100000 in
set_option maxHeartbeats 400000 in
theorem csame_yes (P Q : Nat → Prop) (v u : Value) (q : List (Int × Int)) (w : World) (hv : Lies w P v (cvs q)) (hu : Lies w Q u (cvs q)) (hg : Good q) (hq : q.length ≤ 65536) :
    Calls Try.prog 78 #[v, u] w fun e w' => e = .returned (.bool true) ∧ Below w.heap.size w w' := by
  have k := Lib.hid (cequal_yes P Q v u q w hv hu hg hq)
  clear hv hu hg
  go_enter Try.func78, Try.ntmps78
  go_wp2_with (go_at_call 86; refine k.out.mono ?_; rintro e w' ⟨rfl, m, rfl⟩)
  go_ret
  exact ⟨rfl, below_q _ _⟩

#print axioms cfind_any
#print axioms csame_yes
end Go.Proofs.Ytgoogclcpnfmkaa
