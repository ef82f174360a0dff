/-
  The walk of the law SramKeeps: it returns true for every input, and nothing that was there before the call changes.
  Conditions: none.
-/
import Derived.Test.YtjdkbhmophnclaaSram2
import Derived.Test.YtjdkbhmophnclaaArgs
namespace Go.Proofs.Ytjdkbhmophnclaa
open Go.ChangeShapes Go.WideShapes Go.ChangeAt Go.RowKit

/-- What New leaves: a new memory of N words, all 0. -/
def NewRam (N : Nat) (w : World) (e : Ending) (w' : World) : Prop :=
  ∃ g h, e = .returned (.tuple #[ptr g, .int .i64 0]) ∧ RamAt w' g h (List.replicate N 0) ∧ w.heap.size ≤ g ∧ w.heap.size ≤ h ∧ Below w.heap.size w w'

theorem new_ram (N : Nat) (w : World) (h0 : 1 ≤ N) (h1 : N ≤ 65536) : Calls Try.prog 8 #[.int .i64 (N : Int)] w (NewRam N w) :=
  (new_yes N w h0 h1).mono fun _ _ ⟨he, hr, hb⟩ => ⟨_, _, he, hr, by omega, by omega, hb⟩

/-- What is stored is loaded; no other word changes. -/
theorem load_stored (l : List Int) (a x : Int) (h : fillE l.length a 1 x = 0) : loadV (fillL l a 1 x) a = x ∧ runE (fillL l a 1 x).length a 1 = 0 := by
  obtain ⟨h1, _⟩ := fillE_ok h
  obtain ⟨_, q2, q3⟩ := runE_ok h1
  have hl : runE (fillL l a 1 x).length a 1 = 0 := by rw [fillL_len]; exact h1
  refine ⟨?_, hl⟩
  unfold loadV
  rw [if_pos hl]
  unfold fillL
  rw [if_pos h]
  obtain ⟨k, rfl⟩ := Int.eq_ofNat_of_zero_le q2
  rw [List.getD_eq_getElem?_getD]
  simp only [fillK, List.getElem?_mapIdx, Int.toNat_natCast]
  rw [List.getElem?_eq_getElem (by omega)]
  simp

theorem load_other (l : List Int) (a x b : Int) (h : a ≠ b) : loadV (fillL l a 1 x) b = loadV l b := by
  unfold fillL
  split
  · rename_i hf
    obtain ⟨h1, _⟩ := fillE_ok hf
    obtain ⟨_, q2, q3⟩ := runE_ok h1
    unfold loadV
    rw [fillK_len]
    split
    · rename_i hb
      obtain ⟨_, p2, p3⟩ := runE_ok hb
      rw [List.getD_eq_getElem?_getD, List.getD_eq_getElem?_getD]
      simp only [fillK, List.getElem?_mapIdx]
      rw [List.getElem?_eq_getElem (by omega)]
      have : ¬ (a.toNat ≤ b.toNat ∧ b.toNat < a.toNat + (1 : Int).toNat) := by
        have : (1 : Int).toNat = 1 := rfl
        omega
      simp only [Option.map_some, Option.getD_some, if_neg this]
    · rfl
  · rfl

set_option maxHeartbeats 2000000 in
theorem sramKeeps_main (N : Nat) (v : Value) (R : List (List Int)) (b0 b1 b2 : Int) (w : World) (hN0 : 1 ≤ N) (hN1 : N ≤ 200) (hR : Recs w 4 v R) (hm : R.length ≤ 40) :
    Calls Try.prog 5 #[.int .i64 (N : Int), v, .agg #[.int .i64 b0, .int .i64 b1, .int .i64 b2]] w fun e w' => e = .returned (.bool true) ∧ Below w.heap.size w w' := by
  have HR := Lib.hid hR
  obtain ⟨A, c, rfl, hA⟩ := hR
  clear hA
  obtain ⟨m, hm'⟩ : ∃ m, R.length = m := ⟨_, rfl⟩
  rw [hm'] at hm HR ⊢
  have HM := Lib.hid hm'; clear hm'
  have g1 : ¬ ((N : Int) < 1) := by omega
  have g2 : ¬ (200 < (N : Int)) := by omega
  have g3 : ¬ (40 < (m : Int)) := by omega
  go_enter Try.func5, Try.ntmps5
  go_wp2_with fail
  refine (new_ram N _ hN0 (by omega)).mono ?_
  rintro e w1 ⟨g, h, rfl, r1, hg1, hh1, hb1⟩
  simp at hg1 hh1
  have row1 : Row w1 w.heap.size 50 (ints [b0, b1, b2]) := (Row.new w 50 (ints [b0, b1, b2]).toArray).of_below hb1 (by simp)
  have hbw : Below w.heap.size w w1 := below_on ((Below.refl _ _).alloc (Nat.le_refl _) _) hb1
  clear hb1
  unfold ptr
  go_wp2_with fail
  go_loopw [43] (fun i wr => ∃ (k : Nat) (l : List Int), k ≤ m ∧ i = .int .i64 k ∧ RamAt wr g h l ∧ Row wr w.heap.size 50 (ints [b0, b1, b2]) ∧ Below w.heap.size w wr) (fun i _ => m - (intOf i).toNat)
  case atStart => exact ⟨0, _, Nat.zero_le _, rfl, r1, row1, hbw⟩
  case round =>
    clear r1 row1 hbw
    obtain ⟨k, l, hk, rfl, r, hrow, hb⟩ := hrel
    have hsz := hb.size
    by_cases hlt : k < m
    · obtain ⟨ad, c', K, a, n, x, hzs, hv, hz, c0, c1, c2, c3⟩ := Recs.four HR.out hb (by rw [HM.out]; exact hlt)
      rw [HM.out] at hv
      injection hv with hv _ hv2
      subst hv hv2
      have hn : n ≤ 9223372036854775807 := (hz n (by simp)).2
      clear hzs hz
      go_wp2_with fail
      refine (do_any g h l K a n x _ (r.below ((Below.refl _ _).alloc (Nat.le_refl _) _)) hn).mono ?_
      rintro e w2 ⟨v2, rfl, hv2, r2, hg2⟩
      have hgg := gr_trans (gr_alloc (gr_refl wr (some h)) _) hg2
      go_wp2
      go_roundw
      case rel => exact ⟨k + 1, _, by omega, by go_num, r2, hrow.of_grown hgg (by simp; omega), below_gr hb hb.size hgg (by omega)⟩
      case measure => simp [intOf]; omega
    · obtain rfl : k = m := by omega
      have e0 : wr.cell? ⟨w.heap.size, 0, none⟩ = some (.int .i64 b0) := hrow.cell 0
      have e1 : wr.cell? ⟨w.heap.size, 1, none⟩ = some (.int .i64 b1) := hrow.cell 1
      have e2 : wr.cell? ⟨w.heap.size, 2, none⟩ = some (.int .i64 b2) := hrow.cell 2
      go_wp2_with fail
      refine (load_any g h l b2 wr r).mono ?_
      rintro e w' ⟨rfl, rfl⟩
      go_wp2_with fail
      refine (store_any g h l b0 b1 wr r).mono ?_
      rintro e w2 ⟨rfl, r2, hg2⟩
      have hrow2 := hrow.of_grown hg2 (by simp; omega)
      have f0 : w2.cell? ⟨w.heap.size, 0, none⟩ = some (.int .i64 b0) := hrow2.cell 0
      have f1 : w2.cell? ⟨w.heap.size, 1, none⟩ = some (.int .i64 b1) := hrow2.cell 1
      have f2 : w2.cell? ⟨w.heap.size, 2, none⟩ = some (.int .i64 b2) := hrow2.cell 2
      have hb2 : Below w.heap.size w w2 := below_gr hb hb.size hg2 (by omega)
      have L0 := load_any g h _ b0 w2 r2
      have L2 := load_any g h _ b2 w2 r2
      clear hrow hrow2 r e0 e1 e2
      by_cases hf : fillE l.length b0 1 b1 = 0
      · obtain ⟨p1, p2⟩ := load_stored l b0 b1 hf
        rw [hf]
        rw [p1, p2] at L0
        by_cases h02 : b0 = b2
        · subst h02
          rw [p1, p2] at L2
          have M0 := Lib.hid L0; clear L0
          have M2 := Lib.hid L2; clear L2 p1 p2 hf
          by_cases hq : b1 = loadV l b0
          · rw [← hq]
            clear hq
            go_wp2_with fail
            refine M0.out.mono ?_
            rintro e w' ⟨rfl, rfl⟩
            go_wp2_with fail
            refine M2.out.mono ?_
            rintro e w' ⟨rfl, rfl⟩
            go_wp2_with fail
            refine (sram_alive _).mono ?_
            rintro e w3 ⟨rfl, hb3⟩
            go_wp2
            go_ret
            exact ⟨rfl, below_on hb2 hb3⟩
          · have hq' : (b1 == loadV l b0) = false := by simpa using hq
            clear hq
            go_wp2_with fail
            refine M0.out.mono ?_
            rintro e w' ⟨rfl, rfl⟩
            go_wp2_with fail
            refine M2.out.mono ?_
            rintro e w' ⟨rfl, rfl⟩
            go_wp2_with fail
            refine (sram_alive _).mono ?_
            rintro e w3 ⟨rfl, hb3⟩
            go_wp2
            go_ret
            exact ⟨rfl, below_on hb2 hb3⟩
        · rw [load_other l b0 b1 b2 h02] at L2
          have M0 := Lib.hid L0; clear L0
          have M2 := Lib.hid L2; clear L2 p1 p2 hf h02
          go_wp2_with fail
          refine M0.out.mono ?_
          rintro e w' ⟨rfl, rfl⟩
          go_wp2_with fail
          refine M2.out.mono ?_
          rintro e w' ⟨rfl, rfl⟩
          go_wp2_with fail
          refine (sram_alive _).mono ?_
          rintro e w3 ⟨rfl, hb3⟩
          go_wp2
          go_ret
          exact ⟨rfl, below_on hb2 hb3⟩
      · have hff : fillL l b0 1 b1 = l := by unfold fillL; rw [if_neg hf]
        rw [hff] at L0 L2
        have hq' : (fillE (l.length : Int) b0 1 b1 == 0) = false := by simpa using hf
        have M0 := Lib.hid L0; clear L0
        have M2 := Lib.hid L2; clear L2 hff hf
        go_wp2_with fail
        refine M0.out.mono ?_
        rintro e w' ⟨rfl, rfl⟩
        go_wp2_with fail
        refine M2.out.mono ?_
        rintro e w' ⟨rfl, rfl⟩
        go_wp2_with fail
        refine (sram_alive _).mono ?_
        rintro e w3 ⟨rfl, hb3⟩
        go_wp2
        go_ret
        exact ⟨rfl, below_on hb2 hb3⟩

set_option maxHeartbeats 400000 in
theorem sramKeeps_any (n : Int) (v : Value) (R : List (List Int)) (b0 b1 b2 : Int) (w : World) (hR : Recs w 4 v R) (hm : R.length ≤ maxLen) :
    Calls Try.prog 5 #[.int .i64 n, v, .agg #[.int .i64 b0, .int .i64 b1, .int .i64 b2]] w fun e w' => e = .returned (.bool true) ∧ Below w.heap.size w w' := by
  unfold maxLen at hm
  have al := fun W => Lib.hid (sram_alive W)
  by_cases h1 : n < 1
  · obtain ⟨A, c, rfl, hA⟩ := hR
    clear hA
    go_enter Try.func5, Try.ntmps5
    go_wp2_with (go_at_call 7; refine (al _).out.mono ?_; rintro e w3 ⟨rfl, hb3⟩)
    go_ret
    exact ⟨rfl, below_on ((Below.refl _ _).alloc (Nat.le_refl _) _) hb3⟩
  · by_cases h2 : 200 < n
    · obtain ⟨A, c, rfl, hA⟩ := hR
      clear hA
      go_enter Try.func5, Try.ntmps5
      go_wp2_with (go_at_call 7; refine (al _).out.mono ?_; rintro e w3 ⟨rfl, hb3⟩)
      go_ret
      exact ⟨rfl, below_on ((Below.refl _ _).alloc (Nat.le_refl _) _) hb3⟩
    · by_cases h3 : 40 < R.length
      · obtain ⟨A, c, rfl, hA⟩ := hR
        clear hA
        have h3' : (40 : Int) < (R.length : Int) := by omega
        go_enter Try.func5, Try.ntmps5
        go_wp2_with (go_at_call 7; refine (al _).out.mono ?_; rintro e w3 ⟨rfl, hb3⟩)
        go_ret
        exact ⟨rfl, below_on ((Below.refl _ _).alloc (Nat.le_refl _) _) hb3⟩
      · obtain ⟨N, rfl⟩ := Int.eq_ofNat_of_zero_le (show 0 ≤ n by omega)
        exact sramKeeps_main N v R b0 b1 b2 w (by omega) (by omega) hR (by omega)

#print axioms sramKeeps_any
end Go.Proofs.Ytjdkbhmophnclaa
