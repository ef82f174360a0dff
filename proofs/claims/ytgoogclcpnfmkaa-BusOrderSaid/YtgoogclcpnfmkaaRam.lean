/-
  Contracts of layer 3 (sram): New, Size, Load, Store, Span, Fill, Clone, Same, for a memory that is known whole, and for a nil memory.
  Conditions: those that each theorem states.
-/
import Derived.Test.YtgoogclcpnfmkaaOnly
import Derived.Deep.QuietTactic
import Derived.BigQuiet
namespace Go.Proofs.Ytgoogclcpnfmkaa
open Go.ChangeShapes Go.WideShapes Go.ChangeAt Go.RowKit

/-- A memory: its struct is block g, its words are block h. -/
structure RamAt (w : World) (g h : Nat) (l : List Int) : Prop where
  top : Row w g 117 [.slice (some ⟨h, 0, none⟩) l.length l.length]
  low : Row w h 3 (ints l)
  len : l.length ≤ 65536
  word : ∀ x ∈ l, 0 ≤ x ∧ x ≤ 65535

theorem RamAt.ne {w : World} {g h : Nat} {l : List Int} (r : RamAt w g h l) : g ≠ h := r.top.ne r.low (by decide)
theorem RamAt.kept {w w' : World} {g h : Nat} {l : List Int} {row : Option Nat} (r : RamAt w g h l) (hg : w.grownBy w' row) (h1 : some g ≠ row) (h2 : some h ≠ row) : RamAt w' g h l :=
  ⟨r.top.of_grown hg h1, r.low.of_grown hg h2, r.len, r.word⟩
theorem RamAt.below {w w' : World} {g h : Nat} {l : List Int} (r : RamAt w g h l) (hb : Below w.heap.size w w') : RamAt w' g h l :=
  r.kept (gr_below hb none) (by simp) (by simp)

/-- The error of a run of n words from a on, in a memory of N words. -/
def runE (N a n : Int) : Int := if n < 0 then 2 else if a < 0 ∨ N - n < a then 4 else 0
def isW (x : Int) : Bool := decide (0 ≤ x ∧ x ≤ 65535)
def fillE (N a n x : Int) : Int := if runE N a n = 0 then (if isW x then 0 else 2) else runE N a n
/-- The words l, those from a on, k of them, replaced by x. -/
def fillK (l : List Int) (a k : Nat) (x : Int) : List Int := l.mapIdx fun i v => if a ≤ i ∧ i < a + k then x else v
def fillL (l : List Int) (a n x : Int) : List Int := if fillE l.length a n x = 0 then fillK l a.toNat n.toNat x else l
def spanL (l : List Int) (a n : Int) : List Int := if runE l.length a n = 0 then (l.drop a.toNat).take n.toNat else []
def loadV (l : List Int) (a : Int) : Int := if runE l.length a 1 = 0 then l.getD a.toNat 0 else 0

theorem fillK_len (l : List Int) (a k : Nat) (x : Int) : (fillK l a k x).length = l.length := by simp [fillK]
theorem fillK_zero (l : List Int) (a : Nat) (x : Int) : fillK l a 0 x = l := by
  apply List.ext_getElem?
  intro i
  simp only [fillK, List.getElem?_mapIdx]
  cases l[i]? with
  | none => rfl
  | some v => simp; omega
theorem fillK_succ (l : List Int) (a k : Nat) (x : Int) (h : a + k < l.length) : fillK l a (k + 1) x = (fillK l a k x).set (a + k) x := by
  apply List.ext_getElem?
  intro i
  rw [List.getElem?_set, fillK_len]
  simp only [fillK, List.getElem?_mapIdx]
  by_cases hi : a + k = i
  · subst hi
    simp [h]
  · rw [if_neg hi]
    cases l[i]? with
    | none => rfl
    | some v =>
      simp only [Option.map_some, Option.some.injEq]
      congr 1
      exact propext (by omega)
theorem fillK_word (l : List Int) (a k : Nat) (x : Int) (hl : ∀ y ∈ l, 0 ≤ y ∧ y ≤ 65535) (hx : 0 ≤ x ∧ x ≤ 65535) : ∀ y ∈ fillK l a k x, 0 ≤ y ∧ y ≤ 65535 := by
  intro y hy
  obtain ⟨i, hi, rfl⟩ := List.mem_mapIdx.1 hy
  split
  · exact hx
  · exact hl _ (List.getElem_mem hi)
theorem fillL_len (l : List Int) (a n x : Int) : (fillL l a n x).length = l.length := by
  unfold fillL; split
  · exact fillK_len _ _ _ _
  · rfl
theorem runE_ok {N a n : Int} (h : runE N a n = 0) : 0 ≤ n ∧ 0 ≤ a ∧ a + n ≤ N := by
  unfold runE at h; split at h
  · cases h
  · split at h
    · cases h
    · omega

set_option maxRecDepth 100000 in
set_option maxHeartbeats 400000 in
theorem isWord_any (x : Int) (w : World) :
    Calls Try.prog 90 #[.int .i64 x] w fun e w' => e = .returned (.bool (isW x)) ∧ w = w' := by
  by_cases h : 0 ≤ x
  · by_cases h2 : x ≤ 65535
    · have e : isW x = true := by simp [isW]; omega
      have E := Lib.hid e; clear e
      go_enter Try.func90, Try.ntmps90
      go_wp2
      go_ret
      exact ⟨by rw [E.out]; rfl, rfl⟩
    · have e : isW x = false := by simp [isW]; omega
      have E := Lib.hid e; clear e
      have h' : decide (x ≤ 65535) = false := by simpa using h2
      go_enter Try.func90, Try.ntmps90
      go_wp2
      go_ret
      exact ⟨by rw [E.out]; rfl, rfl⟩
  · have e : isW x = false := by simp [isW]; omega
    have E := Lib.hid e; clear e
    have h' : decide (0 ≤ x) = false := by simpa using h
    go_enter Try.func90, Try.ntmps90
    go_wp2
    go_ret
    exact ⟨by rw [E.out]; rfl, rfl⟩

set_option maxRecDepth 100000 in
set_option maxHeartbeats 400000 in
theorem check_nil (a n : Int) (w : World) :
    Calls Try.prog 83 #[.pointer none, .int .i64 a, .int .i64 n] w fun e w' => e = .returned (.int .i64 1) ∧ w = w' := by
  go_enter Try.func83, Try.ntmps83
  go_wp2
  go_ret
  exact ⟨rfl, rfl⟩

set_option maxRecDepth 100000 in
set_option maxHeartbeats 1000000 in
theorem check_any (g h : Nat) (l : List Int) (a n : Int) (w : World) (r : RamAt w g h l) (hn : n ≤ 9223372036854775807) :
    Calls Try.prog 83 #[ptr g, .int .i64 a, .int .i64 n] w fun e w' => e = .returned (.int .i64 (runE l.length a n)) ∧ w = w' := by
  have hc : w.cell? ⟨g, 0, none⟩ = some (.slice (some ⟨h, 0, none⟩) l.length l.length) := r.top.cell 0
  have hl := r.len
  unfold ptr
  by_cases h1 : n < 0
  · have e : runE l.length a n = 2 := by unfold runE; rw [if_pos h1]
    have E := Lib.hid e; clear e
    go_enter Try.func83, Try.ntmps83
    go_wp2
    go_ret
    exact ⟨by rw [E.out]; rfl, rfl⟩
  · by_cases h2 : a < 0
    · have e : runE l.length a n = 4 := by unfold runE; rw [if_neg h1, if_pos (.inl h2)]
      have E := Lib.hid e; clear e
      go_enter Try.func83, Try.ntmps83
      go_wp2
      go_ret
      exact ⟨by rw [E.out]; rfl, rfl⟩
    · by_cases h3 : (l.length : Int) - n < a
      · have e : runE l.length a n = 4 := by unfold runE; rw [if_neg h1, if_pos (.inr h3)]
        have E := Lib.hid e; clear e
        go_enter Try.func83, Try.ntmps83
        go_wp2
        go_ret
        exact ⟨by rw [E.out]; rfl, rfl⟩
      · have e : runE l.length a n = 0 := by unfold runE; rw [if_neg h1, if_neg (by omega)]
        have E := Lib.hid e; clear e
        go_enter Try.func83, Try.ntmps83
        go_wp2
        go_ret
        exact ⟨by rw [E.out]; rfl, rfl⟩

set_option maxRecDepth 100000 in
set_option maxHeartbeats 400000 in
theorem size_nil (w : World) :
    Calls Try.prog 62 #[.pointer none] w fun e w' => e = .returned (.int .i64 0) ∧ w = w' := by
  go_enter Try.func62, Try.ntmps62
  go_wp2
  go_ret
  exact ⟨rfl, rfl⟩

set_option maxRecDepth 100000 in
set_option maxHeartbeats 400000 in
theorem size_any (g h : Nat) (l : List Int) (w : World) (r : RamAt w g h l) :
    Calls Try.prog 62 #[ptr g] w fun e w' => e = .returned (.int .i64 l.length) ∧ w = w' := by
  have hc : w.cell? ⟨g, 0, none⟩ = some (.slice (some ⟨h, 0, none⟩) l.length l.length) := r.top.cell 0
  unfold ptr
  go_enter Try.func62, Try.ntmps62
  go_wp2
  go_ret
  exact ⟨rfl, rfl⟩

set_option maxRecDepth 100000 in
set_option maxHeartbeats 400000 in
theorem new_no (n : Int) (w : World) (h : n < 1 ∨ 65536 < n) :
    Calls Try.prog 30 #[.int .i64 n] w fun e w' => e = .returned (.tuple #[.pointer none, .int .i64 2]) ∧ w = w' := by
  rcases h with h | h
  · go_enter Try.func30, Try.ntmps30
    go_wp2
    go_ret2
    exact ⟨rfl, rfl⟩
  · have h' : ¬ n < 1 := by omega
    go_enter Try.func30, Try.ntmps30
    go_wp2
    go_ret2
    exact ⟨rfl, rfl⟩

set_option maxRecDepth 100000 in
set_option maxHeartbeats 400000 in
theorem new_yes (n : Nat) (w : World) (h0 : 1 ≤ n) (h1 : n ≤ 65536) :
    Calls Try.prog 30 #[.int .i64 (n : Int)] w fun e w' => e = .returned (.tuple #[ptr (w.heap.size + 1), .int .i64 0]) ∧ RamAt w' (w.heap.size + 1) w.heap.size (List.replicate n 0) ∧ Below w.heap.size w w' := by
  have hmk := fun W => run_make_row' (P := Try.prog) 30 3 (.int .i64 0) 8 Try.underlying30 int_info rfl .i64 .i64 n (by omega) (by omega) W
  have g1 : ¬ ((n : Int) < 1) := by omega
  have g2 : ¬ (65536 < (n : Int)) := by omega
  go_enter Try.func30, Try.ntmps30
  go_wp2
  go_ret2
  refine ⟨rfl, ⟨?_, ?_, by simpa using h1, fun x hx => by rw [List.eq_of_mem_replicate hx]; omega⟩, ?_⟩
  · have := Row.new (w.alloc (.cells (madeCells #[Value.int .i64 0] n) 3)) 117 #[.slice (some ⟨w.heap.size, 0, none⟩) n n]
    simpa using this
  · have h1 := Row.new w 3 (madeCells #[Value.int .i64 0] n)
    rw [ints_zeros] at h1
    exact h1.of_grown (gr_alloc (gr_refl _ none) _) (by simp)
  · exact ((Below.refl _ _).alloc (Nat.le_refl _) _).alloc (by simp) _

/-- A slice of integers from k on, m of them. -/
theorem slice_ints (h N k m : Nat) (hk : k + m ≤ N) : ∃ A, (∀ W, (Instr.slice 30 (.slice (some ⟨h, 0, none⟩) N N) (some (.int .i64 (k : Int))) (some (.int .i64 ((k : Int) + (m : Int)))) none).run Try.prog W = .ok (.slice A m (N - k)) W) ∧ (0 < m → A = some ⟨h, k, none⟩) := by
  have hz : ∀ W, (sizeOf (Try.prog.elem 30)).run Try.prog W = .ok 1 W := fun W => by
    have : Try.prog.elem 30 = 3 := by kernel_rfl
    rw [this]
    obtain ⟨i, hi, hs⟩ := Option.map_eq_some_iff.1 int_size
    simp [sizeOf, typeInfo, hi, hs]
  refine ⟨if N = k then some ⟨h, 0, none⟩ else some ⟨h, k, none⟩, fun W => ?_, fun hm => by rw [if_neg (by omega)]⟩
  rw [run_slice_lh (P := Try.prog) (w := W) 30 (some ⟨h, 0, none⟩) N N (by kernel_rfl) .i64 .i64 (k : Int) ((k : Int) + (m : Int)) (by omega) (by omega) (by omega), hz]
  have e1 : ((k : Int)).toNat = k := by omega
  have e2 : ((k : Int) + (m : Int)).toNat - k = m := by omega
  simp only [Result.andThen, sliced, e1, e2, Option.map_some, Nat.mul_one, Addr.add_lit, Nat.zero_add]

#print axioms check_any
#print axioms new_yes
end Go.Proofs.Ytgoogclcpnfmkaa
