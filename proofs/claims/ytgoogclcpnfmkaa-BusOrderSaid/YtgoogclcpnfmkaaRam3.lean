/-
  Contracts of layer 3 (sram), third part: Fill, Store, Clone, Same.
  Conditions: those that each theorem states.
-/
import Derived.Test.YtgoogclcpnfmkaaRam2
namespace Go.Proofs.Ytgoogclcpnfmkaa
open Go.ChangeShapes Go.WideShapes Go.ChangeAt Go.RowKit

set_option maxRecDepth 100000 in
set_option maxHeartbeats 400000 in
theorem fill_nil (a n x : Int) (w : World) :
    Calls Try.prog 85 #[.pointer none, .int .i64 a, .int .i64 n, .int .i64 x] w fun e w' => e = .returned (.int .i64 1) ∧ w = w' := by
  go_enter Try.func85, Try.ntmps85
  go_wp2_with (go_at_call 83; refine (check_nil _ _ _).mono ?_; rintro e w' ⟨rfl, rfl⟩)
  go_ret
  exact ⟨rfl, rfl⟩

theorem isWord_yes (x : Int) (w : World) (h : isW x = true) :
    Calls Try.prog 90 #[.int .i64 x] w fun e w' => e = .returned (.bool true) ∧ w = w' := by
  have k := isWord_any x w
  rwa [h] at k

theorem isWord_no (x : Int) (w : World) (h : isW x = false) :
    Calls Try.prog 90 #[.int .i64 x] w fun e w' => e = .returned (.bool false) ∧ w = w' := by
  have k := isWord_any x w
  rwa [h] at k

set_option maxRecDepth 100000 in
set_option maxHeartbeats 800000 in
theorem fill_err (g h : Nat) (l : List Int) (a n x : Int) (w : World) (r : RamAt w g h l) (hn : n ≤ 9223372036854775807) (hE : fillE l.length a n x ≠ 0) :
    Calls Try.prog 85 #[ptr g, .int .i64 a, .int .i64 n, .int .i64 x] w fun e w' => e = .returned (.int .i64 (fillE l.length a n x)) ∧ w = w' := by
  by_cases h1 : runE l.length a n = 0
  · have hx : isW x = false := by
      cases hx : isW x
      · rfl
      · exact absurd (by unfold fillE; rw [if_pos h1, hx]; rfl) hE
    have hv : fillE l.length a n x = 2 := by unfold fillE; rw [if_pos h1, hx]; rfl
    have HV := Lib.hid hv; clear hv hE
    have ck := Lib.hid (check_ok g h l a n w r hn h1)
    have iw := Lib.hid (isWord_no x w hx)
    clear h1 hx
    go_enter Try.func85, Try.ntmps85
    go_wp2_with (first
      | (go_at_call 83; refine ck.out.mono ?_; rintro e w' ⟨rfl, rfl⟩)
      | (go_at_call 90; refine iw.out.mono ?_; rintro e w' ⟨rfl, rfl⟩))
    go_ret
    exact ⟨by rw [HV.out]; rfl, rfl⟩
  · have hb : (runE (l.length : Int) a n != 0) = true := by simpa using h1
    have hv : fillE l.length a n x = runE l.length a n := by unfold fillE; rw [if_neg h1]
    have HV := Lib.hid hv; clear hv hE h1
    have ck := Lib.hid (check_any g h l a n w r hn)
    go_enter Try.func85, Try.ntmps85
    go_wp2_with (go_at_call 83; refine ck.out.mono ?_; rintro e w' ⟨rfl, rfl⟩)
    go_ret
    exact ⟨by rw [HV.out]; rfl, rfl⟩

theorem fillE_ok {N a n x : Int} (h : fillE N a n x = 0) : runE N a n = 0 ∧ isW x = true := by
  unfold fillE at h
  split at h
  · refine ⟨by assumption, ?_⟩
    cases hx : isW x
    · rw [hx] at h; cases h
    · rfl
  · contradiction

set_option maxRecDepth 100000 in
set_option maxHeartbeats 1000000 in
theorem fill_ok (g h : Nat) (l : List Int) (a n x : Int) (w : World) (r : RamAt w g h l) (hn : n ≤ 9223372036854775807) (hE : fillE l.length a n x = 0) :
    Calls Try.prog 85 #[ptr g, .int .i64 a, .int .i64 n, .int .i64 x] w fun e w' => e = .returned (.int .i64 0) ∧ Row w' h 3 (ints (fillK l a.toNat n.toNat x)) ∧ w.grownBy w' (some h) := by
  obtain ⟨h1, hx⟩ := fillE_ok hE
  obtain ⟨q1, q2, q3⟩ := runE_ok h1
  obtain ⟨k, rfl⟩ := Int.eq_ofNat_of_zero_le q2
  obtain ⟨m, rfl⟩ := Int.eq_ofNat_of_zero_le q1
  have hl := r.len
  obtain ⟨A, hs, hA⟩ := slice_ints h l.length k m (by omega)
  have hc : w.cell? ⟨g, 0, none⟩ = some (.slice (some ⟨h, 0, none⟩) l.length l.length) := r.top.cell 0
  have ck := Lib.hid (check_ok g h l k m w r hn h1)
  have iw := Lib.hid (isWord_yes x w hx)
  have HA := Lib.hid hA
  clear h1 hx hE hA
  rw [Int.toNat_natCast, Int.toNat_natCast]
  go_enter Try.func85, Try.ntmps85
  go_wp2_with (first
    | (go_at_call 83; refine ck.out.mono ?_; rintro e w' ⟨rfl, rfl⟩; unfold ptr)
    | (go_at_call 90; refine iw.out.mono ?_; rintro e w' ⟨rfl, rfl⟩))
  go_loopw [33] (fun i wr => ∃ j : Nat, j ≤ m ∧ i = .int .i64 j ∧ Row wr h 3 (ints (fillK l k j x)) ∧ w.grownBy wr (some h)) (fun i _ => m - (intOf i).toNat)
  case atStart => exact ⟨0, Nat.zero_le _, rfl, by rw [fillK_zero]; exact r.low, gr_refl _ _⟩
  case round =>
    obtain ⟨j, hj, rfl, hrow, hg⟩ := hrel
    by_cases hlt : j < m
    · obtain rfl := HA.out (by omega)
      have hcell : wr.cell? ⟨h, k + j, none⟩ = some (.int .i64 ((fillK l k j x).getD (k + j) 0)) := by
        rw [hrow.cell]; exact ints_at _ _ (by rw [fillK_len]; omega)
      have hfz := hrow.soft (k + j)
      have hrow' := hrow.put (k + j) (.int .i64 x)
      rw [← ints_set, ← fillK_succ l k j x (by omega)] at hrow'
      have HR := Lib.hid hrow'; clear hrow'
      have hg' := gr_put hg (k + j) (.int .i64 x)
      clear hrow
      go_wp2
      go_roundw
      case rel => exact ⟨j + 1, by omega, by go_num, HR.out, hg'⟩
      case measure => simp [intOf]; omega
    · obtain rfl : j = m := by omega
      go_wp2
      go_ret
      exact ⟨rfl, hrow, hg⟩

theorem fill_any (g h : Nat) (l : List Int) (a n x : Int) (w : World) (r : RamAt w g h l) (hn : n ≤ 9223372036854775807) :
    Calls Try.prog 85 #[ptr g, .int .i64 a, .int .i64 n, .int .i64 x] w fun e w' => e = .returned (.int .i64 (fillE l.length a n x)) ∧ RamAt w' g h (fillL l a n x) ∧ w.grownBy w' (some h) := by
  by_cases hE : fillE l.length a n x = 0
  · refine (fill_ok g h l a n x w r hn hE).mono ?_
    rintro e w' ⟨rfl, hrow, hg⟩
    obtain ⟨_, hx⟩ := fillE_ok hE
    refine ⟨by rw [hE], ?_, hg⟩
    have hf : fillL l a n x = fillK l a.toNat n.toNat x := by unfold fillL; rw [if_pos hE]
    rw [hf]
    refine ⟨?_, hrow, by rw [fillK_len]; exact r.len, fillK_word l _ _ x r.word (by simpa [isW] using hx)⟩
    rw [fillK_len]
    exact r.top.of_grown hg (fun e => r.ne (by injection e))
  · refine (fill_err g h l a n x w r hn hE).mono ?_
    rintro e w' ⟨rfl, rfl⟩
    have hf : fillL l a n x = l := by unfold fillL; rw [if_neg hE]
    rw [hf]
    exact ⟨rfl, r, gr_refl _ _⟩

set_option maxRecDepth 100000 in
set_option maxHeartbeats 400000 in
theorem store_nil (a x : Int) (w : World) :
    Calls Try.prog 74 #[.pointer none, .int .i64 a, .int .i64 x] w fun e w' => e = .returned (.int .i64 1) ∧ w = w' := by
  go_enter Try.func74, Try.ntmps74
  go_wp2_with (go_at_call 85; refine (fill_nil _ _ _ _).mono ?_; rintro e w' ⟨rfl, rfl⟩)
  go_ret
  exact ⟨rfl, rfl⟩

set_option maxRecDepth 100000 in
set_option maxHeartbeats 400000 in
theorem store_any (g h : Nat) (l : List Int) (a x : Int) (w : World) (r : RamAt w g h l) :
    Calls Try.prog 74 #[ptr g, .int .i64 a, .int .i64 x] w fun e w' => e = .returned (.int .i64 (fillE l.length a 1 x)) ∧ RamAt w' g h (fillL l a 1 x) ∧ w.grownBy w' (some h) := by
  have fl := Lib.hid (fill_any g h l a 1 x w r (by omega))
  go_enter Try.func74, Try.ntmps74
  go_wp2_with (go_at_call 85; refine fl.out.mono ?_; rintro e w' ⟨rfl, hr, hg⟩)
  go_ret
  exact ⟨rfl, hr, hg⟩

set_option maxRecDepth 100000 in
set_option maxHeartbeats 400000 in
theorem clone_nil (w : World) :
    Calls Try.prog 44 #[.pointer none] w fun e w' => e = .returned (.pointer none) ∧ w = w' := by
  go_enter Try.func44, Try.ntmps44
  go_wp2
  go_ret
  exact ⟨rfl, rfl⟩

/-- What Clone leaves: a new memory with the same words. -/
def CloneP (l : List Int) (w : World) (e : Ending) (w' : World) : Prop :=
  ∃ g h, e = .returned (ptr g) ∧ RamAt w' g h l ∧ w.heap.size ≤ g ∧ w.heap.size ≤ h ∧ Below w.heap.size w w'

set_option maxRecDepth 100000 in
set_option maxHeartbeats 400000 in
theorem clone_any (g h : Nat) (l : List Int) (w : World) (r : RamAt w g h l) :
    Calls Try.prog 44 #[ptr g] w (CloneP l w) := by
  have hc : w.cell? ⟨g, 0, none⟩ = some (.slice (some ⟨h, 0, none⟩) l.length l.length) := r.top.cell 0
  have hli : Lies w (fun _ => True) (.slice (some ⟨h, 0, none⟩) l.length l.length) (ints l) := by
    have := Lies.of_row (P := fun _ => True) r.low trivial l.length
    rwa [ints_len] at this
  have cp := Lib.hid (copied_any _ _ l l.length w hli rfl r.len)
  clear hli
  unfold ptr
  go_enter Try.func44, Try.ntmps44
  go_wp2_with (go_at_call 77; refine cp.out.mono ?_; rintro e w1 ⟨rfl, hrow, hb⟩)
  go_ret
  refine ⟨w1.heap.size, w.heap.size, rfl, ⟨?_, hrow.of_grown (gr_alloc (gr_refl _ none) _) (by simp), r.len, r.word⟩, hb.size, Nat.le_refl _, hb.alloc hb.size _⟩
  exact Row.new w1 117 #[.slice (some ⟨w.heap.size, 0, none⟩) l.length l.length]

#print axioms fill_any
#print axioms store_any
#print axioms clone_any
end Go.Proofs.Ytgoogclcpnfmkaa
