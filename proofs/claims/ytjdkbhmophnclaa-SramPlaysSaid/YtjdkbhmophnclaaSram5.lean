/-
  The walk of the law SramPlays: it returns true for every input, and nothing that was there before the call changes.
  Conditions: none.
-/
import Derived.Test.YtjdkbhmophnclaaRRam2
import Derived.Test.YtjdkbhmophnclaaSram4
namespace Go.Proofs.Ytjdkbhmophnclaa
open Go.ChangeShapes Go.WideShapes Go.ChangeAt Go.RowKit

/-- What a call of the reference leaves. -/
def RDoP (P : Nat → Prop) (l : List Int) (K a n x : Int) (w : World) (e : Ending) (w' : World) : Prop :=
  ∃ v u, e = .returned (.tuple #[v, u, .int .i64 (doE l.length K a n x)]) ∧ Lies w' P v (ints (doL l K a n x)) ∧ Lies w' (w.heap.size ≤ ·) u (ints (doT l K a n)) ∧ Below w.heap.size w w'

set_option maxHeartbeats 1000000 in
theorem rdo_any (P : Nat → Prop) (v : Value) (l : List Int) (K a n x : Int) (w : World) (hv : Lies w P v (ints l)) (h0 : 1 ≤ l.length) (hl : l.length ≤ 65536) (hn : n ≤ 9223372036854775807) (hP : ∀ b, w.heap.size ≤ b → P b) :
    Calls Try.prog 11 #[v, opV K a n x] w (RDoP P l K a n x w) := by
  have hv' := Lib.hid (fun o : Obj => hv.below ((Below.refl _ _).alloc (Nat.le_refl _) o))
  have hP' := Lib.hid (fun (o : Obj) (b : Nat) (hb : (w.alloc o).heap.size ≤ b) => hP b (by simp at hb; omega))
  clear hv hP
  unfold opV
  by_cases k0 : K = 0
  · subst k0
    go_enter Try.func11, Try.ntmps11
    go_wp2_with (go_at_call 22; refine (rstore_any P v l a x _ (hv'.out _) hl (hP'.out _)).mono ?_; rintro e w' ⟨v1, rfl, hv1, hb1⟩)
    go_ret3
    exact ⟨_, _, rfl, hv1, Lies.nil_ _ _, below_on ((Below.refl _ _).alloc (Nat.le_refl _) _) hb1⟩
  · by_cases k2 : K = 2
    · subst k2
      clear k0
      go_enter Try.func11, Try.ntmps11
      go_wp2_with (go_at_call 23; refine (rspan_any P v l a n _ (hv'.out _) hl hn).mono ?_; rintro e w' ⟨v1, rfl, hv1, hb1⟩)
      go_ret3
      exact ⟨_, _, rfl, (hv'.out _).below hb1, hv1.weak (fun q _ hq => by simp at hq; omega), below_on ((Below.refl _ _).alloc (Nat.le_refl _) _) hb1⟩
    · by_cases k3 : K = 3
      · subst k3
        clear k0 k2
        go_enter Try.func11, Try.ntmps11
        go_wp2_with (go_at_call 24; refine (rfill_any P v l a n x _ (hv'.out _) h0 hl hn (hP'.out _)).mono ?_; rintro e w' ⟨v1, rfl, hv1, hb1⟩)
        go_ret3
        exact ⟨_, _, rfl, hv1, Lies.nil_ _ _, below_on ((Below.refl _ _).alloc (Nat.le_refl _) _) hb1⟩
      · have b0 : (K == 0) = false := by simpa using k0
        have b2 : (K == 2) = false := by simpa using k2
        have b3 : (K == 3) = false := by simpa using k3
        have e1 : doL l K a n x = l := by unfold doL; rw [if_neg k0, if_neg k3]
        have e2 : doT l K a n = [loadV l a] := by unfold doT; rw [if_neg k0, if_neg k2, if_neg k3]
        have e3 : doE l.length K a n x = runE l.length a 1 := by unfold doE; rw [if_neg k0, if_neg k2, if_neg k3]
        have E1 := Lib.hid e1; clear e1
        have E2 := Lib.hid e2; clear e2
        have E3 := Lib.hid e3; clear e3 k0 k2 k3
        go_enter Try.func11, Try.ntmps11
        go_wp2_with (go_at_call 25; refine (rload_any P v l a _ (hv'.out _) hl).mono ?_; rintro e w' ⟨rfl, rfl⟩)
        go_ret3
        refine ⟨_, _, by rw [E3.out]; rfl, ?_, ?_, ((Below.refl _ _).alloc (Nat.le_refl _) _).alloc (by simp) _⟩
        · rw [E1.out]
          exact (hv'.out _).below ((Below.refl _ _).alloc (Nat.le_refl _) _)
        · rw [E2.out]
          exact Lies.fresh _ (w.heap.size ≤ ·) 3 [.int .i64 (loadV l a)] (w.heap.size + 1) (by simp) (by omega) 1

set_option maxHeartbeats 400000 in
theorem ris3_yes (n : Int) (w : World) (h0 : 1 ≤ n) (h1 : n ≤ 65536) :
    Calls Try.prog 9 #[.int .i64 n] w fun e w' => e = .returned (.bool true) ∧ w = w' := by
  go_enter Try.func9, Try.ntmps9
  go_wp2
  go_ret
  exact ⟨rfl, rfl⟩

set_option maxHeartbeats 400000 in
theorem ris3_no (n : Int) (w : World) (h : n < 1 ∨ 65536 < n) :
    Calls Try.prog 9 #[.int .i64 n] w fun e w' => e = .returned (.bool false) ∧ w = w' := by
  rcases h with h | h
  · have h' : decide (1 ≤ n) = false := by simp; omega
    go_enter Try.func9, Try.ntmps9
    go_wp2
    go_ret
    exact ⟨rfl, rfl⟩
  · have h0 : 1 ≤ n := by omega
    have h' : decide (n ≤ 65536) = false := by simp; omega
    go_enter Try.func9, Try.ntmps9
    go_wp2
    go_ret
    exact ⟨rfl, rfl⟩

theorem rsame_yes (P Q : Nat → Prop) (v u : Value) (x : List Int) (w : World) (hv : Lies w P v (ints x)) (hu : Lies w Q u (ints x)) (hx : x.length ≤ 65536) :
    Calls Try.prog 13 #[v, u] w fun e w' => e = .returned (.bool true) ∧ Below w.heap.size w w' :=
  (rsame_any P Q v u x x w hv hu hx hx).mono fun _ _ ⟨he, hb⟩ => ⟨by rw [he]; simp, hb⟩

set_option maxHeartbeats 2000000 in
theorem sramPlays_main (N : Nat) (v : Value) (R : List (List Int)) (w : World) (hN0 : 1 ≤ N) (hN1 : N ≤ 65536) (hR : Recs w 4 v R) (hm : R.length ≤ 60) (hs : N ≤ 300 ∨ R.length = 0) :
    Calls Try.prog 3 #[.int .i64 (N : Int), v] w fun e w' => e = .returned (.bool true) ∧ Below w.heap.size w w' := by
  have HR := Lib.hid hR
  obtain ⟨A, c, rfl, hA⟩ := hR
  clear hA
  obtain ⟨m, hm'⟩ : ∃ m, R.length = m := ⟨_, rfl⟩
  rw [hm'] at hm hs HR ⊢
  have HM := Lib.hid hm'; clear hm'
  have g3 : ¬ (60 < (m : Int)) := by omega
  have g4 : decide (300 < (N : Int)) = false ∨ (decide (300 < (N : Int)) = true ∧ decide (0 < m) = false) := by
    rcases hs with h | h
    · left; simp; omega
    · by_cases h3 : 300 < (N : Int)
      · right; simp; omega
      · left; simpa using h3
  have hmk := fun W => run_make_row' (P := Try.prog) 31 3 (.int .i64 0) 8 Try.underlying31 int_info rfl .i64 .i64 N (by omega) (by omega) W
  have hne : ((N : Int) != (N : Int)) = false := by simp
  clear hs
  rcases g4 with g4 | ⟨g4, g5⟩
  all_goals
    go_enter Try.func3, Try.ntmps3
    go_wp2_with fail
    refine (new_ram N _ hN0 (by omega)).mono ?_
    rintro e w1 ⟨g, h, rfl, r1, hg1, hh1, hb1⟩
    go_wp2_with fail
    refine (ris3_yes _ _ (by omega) (by omega)).mono ?_
    rintro e w' ⟨rfl, rfl⟩
    have sz := Lib.hid (size_any g h _ w1 r1)
    rw [List.length_replicate] at sz
    unfold ptr at sz ⊢
    go_wp2_with fail
    refine sz.out.mono ?_
    rintro e w' ⟨rfl, rfl⟩
    have hbw : Below w.heap.size w (w1.alloc (.cells (madeCells #[Value.int .i64 0] N) 3)) := hb1.alloc hb1.size _
    have r2 := r1.below ((Below.refl _ _).alloc (Nat.le_refl _) (.cells (madeCells #[Value.int .i64 0] N) 3))
    have hL : Lies (w1.alloc (.cells (madeCells #[Value.int .i64 0] N) 3)) (· ≠ h) (.slice (some ⟨w1.heap.size, 0, none⟩) N N) (ints (List.replicate N 0)) := by
      have hr := Row.new w1 3 (madeCells #[Value.int .i64 0] N)
      rw [ints_zeros] at hr
      have := Lies.of_row (P := (· ≠ h)) hr (Nat.ne_of_gt r1.low.lt) N
      rwa [ints_len, List.length_replicate] at this
    clear r1 hb1
    go_wp2_with fail
    go_loopw [7, 61] (fun v i wr => ∃ (k : Nat) (l : List Int), k ≤ m ∧ i = .int .i64 k ∧ l.length = N ∧ RamAt wr g h l ∧ Lies wr (· ≠ h) v (ints l) ∧ Below w.heap.size w wr) (fun _ i _ => m - (intOf i).toNat)
    case atStart => exact ⟨0, _, Nat.zero_le _, rfl, by simp, r2, hL, hbw⟩
    case round =>
      clear r2 hL hbw sz
      obtain ⟨k, l, hk, rfl, hlN, r, hv, hb⟩ := hrel
      have HL := Lib.hid hlN; clear hlN
      have hsz := hb.size
      by_cases hlt : k < m
      · obtain ⟨ad, c', K, a, n, x, hzs, hv', hz, c0, c1, c2, c3⟩ := Recs.four HR.out hb (by rw [HM.out]; exact hlt)
        rw [HM.out] at hv'
        injection hv' with hv' _ hv2
        subst hv' hv2
        have hn : n ≤ 9223372036854775807 := (hz n (by simp)).2
        clear hzs hz
        have hrl := r.low.lt
        go_wp2_with fail
        refine (rdo_any (· ≠ h) _ l K a n x _ (hv.below ((Below.refl _ _).alloc (Nat.le_refl _) _)) (by rw [HL.out]; exact hN0) (by rw [HL.out]; exact hN1) hn (fun b hb => by simp at hb; omega)).mono ?_
        rintro e w2 ⟨v2, u2, rfl, hv2, hu2, hb2⟩
        have d0 : w2.cell? ⟨wr.heap.size, 0, none⟩ = some (.int .i64 K) := (hb2.cell (p := ⟨wr.heap.size, 0, none⟩) (by simp)).trans (by simp [go_sem])
        have d1 : w2.cell? ⟨wr.heap.size, 1, none⟩ = some (.int .i64 a) := (hb2.cell (p := ⟨wr.heap.size, 1, none⟩) (by simp)).trans (by simp [go_sem])
        have d2 : w2.cell? ⟨wr.heap.size, 2, none⟩ = some (.int .i64 n) := (hb2.cell (p := ⟨wr.heap.size, 2, none⟩) (by simp)).trans (by simp [go_sem])
        have d3 : w2.cell? ⟨wr.heap.size, 3, none⟩ = some (.int .i64 x) := (hb2.cell (p := ⟨wr.heap.size, 3, none⟩) (by simp)).trans (by simp [go_sem])
        have hbb2 := below_on ((Below.refl wr.heap.size wr).alloc (Nat.le_refl _) _) hb2
        have hu2' := hu2.weak (Q := (· ≠ h)) (fun q _ hq => by simp at hq; omega)
        have r2 := r.below hbb2
        clear hu2 hv c0 c1 c2 c3
        go_wp2_with fail
        refine (do_any g h l K a n x _ r2 hn).mono ?_
        rintro e w3 ⟨v3, rfl, hv3, r3, hg3⟩
        have hv2' := hv2.kept hg3 (fun q hq => by injection hq with hq; simp [hq])
        have hu3 := hu2'.kept hg3 (fun q hq => by injection hq with hq; simp [hq])
        have hb3 : Below w.heap.size w w3 := below_gr (hb.trans (hbb2.mono hb.size)) (Nat.le_trans hb.size hbb2.size) hg3 (by omega)
        have hself : (doE (l.length : Int) K a n x != doE (l.length : Int) K a n x) = false := by simp
        have hdl := doL_len l K a n x
        have hdt := doT_len l K a n r.len
        rw [HL.out] at hdl
        have HD := Lib.hid hdl; clear hdl
        clear d0 d1 d2 d3 hu2' hv2 r r2
        go_wp2_with fail
        refine (rsame_yes _ _ _ _ _ _ hu3 hv3 hdt).mono ?_
        rintro e w4 ⟨rfl, hb4⟩
        have r4 := r3.below hb4
        have hv4 := hv2'.below hb4
        go_wp2_with fail
        refine (words_any g h _ w4 r4).mono ?_
        rintro e w5 ⟨v5, rfl, hv5, hb5⟩
        have r5 := r4.below hb5
        have hv6 := hv4.below hb5
        go_wp2_with fail
        refine (rsame_yes _ _ _ _ _ _ hv5 hv6 (by rw [HD.out]; exact hN1)).mono ?_
        rintro e w6 ⟨rfl, hb6⟩
        have r6 := r5.below hb6
        have hv7 := hv6.below hb6
        have hbf := below_on (below_on (below_on hb3 hb4) hb5) hb6
        clear r3 r4 r5 hv2' hv3 hv4 hv5 hv6 hu3
        go_wp2
        go_roundw
        case rel => exact ⟨k + 1, _, by omega, by go_num, HD.out, r6, hv7, hbf⟩
        case measure => simp [intOf]; omega
      · obtain rfl : k = m := by omega
        go_wp2_with fail
        refine (sram_alive _).mono ?_
        rintro e w3 ⟨rfl, hb3⟩
        go_wp2
        go_ret
        exact ⟨rfl, below_on hb hb3⟩

set_option maxHeartbeats 800000 in
theorem sramPlays_any (n : Int) (v : Value) (R : List (List Int)) (w : World) (hR : Recs w 4 v R) (hm : R.length ≤ maxLen) :
    Calls Try.prog 3 #[.int .i64 n, v] w fun e w' => e = .returned (.bool true) ∧ Below w.heap.size w w' := by
  unfold maxLen at hm
  have al := fun W => Lib.hid (sram_alive W)
  by_cases h1 : 60 < R.length
  · obtain ⟨A, c, rfl, hA⟩ := hR
    clear hA
    have h1' : (60 : Int) < (R.length : Int) := by omega
    go_enter Try.func3, Try.ntmps3
    go_wp2_with (go_at_call 7; refine (al _).out.mono ?_; rintro e w3 ⟨rfl, hb3⟩)
    go_ret
    exact ⟨rfl, hb3⟩
  · by_cases h2 : 300 < n ∧ 0 < R.length
    · obtain ⟨h2, h3⟩ := h2
      obtain ⟨A, c, rfl, hA⟩ := hR
      clear hA
      have h1' : ¬ ((60 : Int) < (R.length : Int)) := by omega
      go_enter Try.func3, Try.ntmps3
      go_wp2_with (go_at_call 7; refine (al _).out.mono ?_; rintro e w3 ⟨rfl, hb3⟩)
      go_ret
      exact ⟨rfl, hb3⟩
    · by_cases h3 : n < 1 ∨ 65536 < n
      · obtain ⟨A, c, rfl, hA⟩ := hR
        clear hA
        have h1' : ¬ ((60 : Int) < (R.length : Int)) := by omega
        have g4 : decide (300 < n) = false ∨ (decide (300 < n) = true ∧ decide (0 < R.length) = false) := by
          by_cases h : 300 < n
          · right
            exact ⟨by simpa using h, decide_eq_false (by omega)⟩
          · left; simpa using h
        have nw := Lib.hid (new_no n w h3)
        have is := fun W => Lib.hid (ris3_no n W h3)
        clear h2 h3
        rcases g4 with g4 | ⟨g4, g5⟩
        all_goals
          go_enter Try.func3, Try.ntmps3
          go_wp2_with (first
            | (go_at_call 8; refine nw.out.mono ?_; rintro e w' ⟨rfl, rfl⟩)
            | (go_at_call 9; refine (is _).out.mono ?_; rintro e w' ⟨rfl, rfl⟩)
            | (go_at_call 7; refine (al _).out.mono ?_; rintro e w3 ⟨rfl, hb3⟩))
          go_ret
          exact ⟨rfl, hb3⟩
      · obtain ⟨N, rfl⟩ := Int.eq_ofNat_of_zero_le (show 0 ≤ n by omega)
        exact sramPlays_main N v R w (by omega) (by omega) hR (by omega) (by omega)

#print axioms sramPlays_any
end Go.Proofs.Ytjdkbhmophnclaa
