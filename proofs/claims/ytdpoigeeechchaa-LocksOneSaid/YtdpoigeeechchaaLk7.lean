/-
  The walk of the law LocksOne: it returns true for every input, and nothing that was there before the call changes.
  Conditions: none.
-/
import Derived.Test.YtdpoigeeechchaaLk6
import Derived.Test.YtdpoigeeechchaaArgs2
namespace Go.Proofs.Ytdpoigeeechchaa
open Go.ChangeShapes Go.WideShapes Go.ChangeAt Go.RowKit

/-- What a call makes of one lock's owner, by cases. -/
theorem one_cases {C : Nat} {l : List Int} {k : Nat} {o K c j : Int} (hk : l[k]? = some o) (hok : OwnOk C o) :
    ∃ o', (dL C l K c j)[k]? = some o' ∧
      ((K = 0 ∧ j = k ∧ dE C l K c j = 0 ∧ dX C l K c j = 1 ∧ o < 0 ∧ o' = c) ∨ (K = 0 ∧ j = k ∧ dE C l K c j = 0 ∧ dX C l K c j = 0 ∧ 0 ≤ o ∧ o' = o) ∨ (K = 0 ∧ j = k ∧ dE C l K c j ≠ 0 ∧ o' = o) ∨ (K = 0 ∧ j ≠ k ∧ o' = o)
      ∨ (K = 1 ∧ j = k ∧ dE C l K c j = 0 ∧ o = c ∧ o' = -1) ∨ (K = 1 ∧ j = k ∧ dE C l K c j ≠ 0 ∧ o' = o) ∨ (K = 1 ∧ j ≠ k ∧ o' = o)
      ∨ (K = 3 ∧ dE C l K c j = 0 ∧ o = c ∧ o' = -1) ∨ (K = 3 ∧ dE C l K c j = 0 ∧ o ≠ c ∧ o' = o) ∨ (K = 3 ∧ dE C l K c j ≠ 0 ∧ o' = o) ∨ (K ≠ 0 ∧ K ≠ 1 ∧ K ≠ 3 ∧ o' = o)) := by
  have hkl := (List.getElem?_eq_some_iff.1 hk).1
  by_cases h0 : K = 0
  · subst h0
    have e1 : dL C l 0 c j = tryL C l c j := by simp [dL]
    have e2 : dE C l 0 c j = ck C l.length c j := by simp [dE]
    have e3 : dX C l 0 c j = if tryB C l c j = true then 1 else 0 := by simp [dX]
    rw [e1, e2, e3]
    by_cases hc : ck C l.length c j = 0
    · obtain ⟨⟨c0, c1⟩, n, rfl, hn⟩ := ck_zero hc
      by_cases hj : n = k
      · subst hj
        by_cases ho : o = -1
        · subst ho
          have hp : ck C l.length c n = 0 ∧ l[(n : Int).toNat]? = some (-1) := ⟨hc, by simpa using hk⟩
          refine ⟨c, by unfold tryL; rw [if_pos hp]; simp [hkl], .inl ⟨rfl, rfl, hc, by unfold tryB; rw [decide_eq_true hp]; rfl, by omega, rfl⟩⟩
        · have hp : ¬ (ck C l.length c n = 0 ∧ l[(n : Int).toNat]? = some (-1)) := fun e => ho (by have := hk.symm.trans (by simpa using e.2); injection this)
          refine ⟨o, by unfold tryL; rw [if_neg hp]; exact hk, .inr (.inl ⟨rfl, rfl, hc, by unfold tryB; rw [decide_eq_false hp]; rfl, by rcases hok with h | h; exact absurd h ho; exact h.1, rfl⟩)⟩
      · refine ⟨o, ?_, .inr (.inr (.inr (.inl ⟨rfl, by omega, rfl⟩)))⟩
        unfold tryL
        split
        · rw [Int.toNat_natCast, List.getElem?_set, if_neg hj]; exact hk
        · exact hk
    · have hl : tryL C l c j = l := by unfold tryL; rw [if_neg (fun e => hc e.1)]
      rw [hl]
      by_cases hj : j = k
      · exact ⟨o, hk, .inr (.inr (.inl ⟨rfl, hj, hc, rfl⟩))⟩
      · exact ⟨o, hk, .inr (.inr (.inr (.inl ⟨rfl, hj, rfl⟩)))⟩
  · by_cases h1 : K = 1
    · subst h1
      have e1 : dL C l 1 c j = freeL C l c j := by simp [dL]
      have e2 : dE C l 1 c j = freeE C l c j := by simp [dE]
      rw [e1, e2]
      by_cases hc : ck C l.length c j = 0
      · obtain ⟨⟨c0, c1⟩, n, rfl, hn⟩ := ck_zero hc
        by_cases hj : n = k
        · subst hj
          by_cases ho : o = c
          · subst ho
            have hp : ck C l.length o n = 0 ∧ l[(n : Int).toNat]? = some o := ⟨hc, by simpa using hk⟩
            exact ⟨-1, by unfold freeL; rw [if_pos hp]; simp [hkl], .inr (.inr (.inr (.inr (.inl ⟨rfl, rfl, by unfold freeE; rw [if_pos hc, if_pos hp.2], rfl, rfl⟩))))⟩
          · have hp : ¬ l[(n : Int).toNat]? = some c := fun e => ho (by have := hk.symm.trans (by simpa using e); injection this)
            exact ⟨o, by unfold freeL; rw [if_neg (fun e => hp e.2)]; exact hk, .inr (.inr (.inr (.inr (.inr (.inl ⟨rfl, rfl, by unfold freeE; rw [if_pos hc, if_neg hp]; decide, rfl⟩)))))⟩
        · refine ⟨o, ?_, .inr (.inr (.inr (.inr (.inr (.inr (.inl ⟨rfl, by omega, rfl⟩))))))⟩
          unfold freeL
          split
          · rw [Int.toNat_natCast, List.getElem?_set, if_neg hj]; exact hk
          · exact hk
      · have hl : freeL C l c j = l := by unfold freeL; rw [if_neg (fun e => hc e.1)]
        have he : freeE C l c j ≠ 0 := by unfold freeE; rw [if_neg hc]; exact hc
        rw [hl]
        by_cases hj : j = k
        · exact ⟨o, hk, .inr (.inr (.inr (.inr (.inr (.inl ⟨rfl, hj, he, rfl⟩)))))⟩
        · exact ⟨o, hk, .inr (.inr (.inr (.inr (.inr (.inr (.inl ⟨rfl, hj, rfl⟩))))))⟩
    · by_cases h3 : K = 3
      · subst h3
        have e1 : dL C l 3 c j = relL C l c := by simp [dL]
        have e2 : dE C l 3 c j = ckC C c := by simp [dE]
        rw [e1, e2]
        by_cases hc : ckC C c = 0
        · have hl : relL C l c = freeAll l (heldN l c l.length) := by unfold relL; rw [if_pos hc]
          rw [hl, freeAll_at _ _ _ hkl]
          by_cases ho : o = c
          · subst ho
            exact ⟨-1, by rw [if_pos (heldN_mem.2 ⟨hkl, hk⟩)], .inr (.inr (.inr (.inr (.inr (.inr (.inr (.inl ⟨rfl, hc, rfl, rfl⟩)))))))⟩
          · exact ⟨o, by rw [if_neg (fun h => ho (by have := hk.symm.trans (heldN_mem.1 h).2; injection this))]; exact hk, .inr (.inr (.inr (.inr (.inr (.inr (.inr (.inr (.inl ⟨rfl, hc, ho, rfl⟩))))))))⟩
        · have hl : relL C l c = l := by unfold relL; rw [if_neg hc]
          rw [hl]
          exact ⟨o, hk, .inr (.inr (.inr (.inr (.inr (.inr (.inr (.inr (.inr (.inl ⟨rfl, hc, rfl⟩)))))))))⟩
      · have hl : dL C l K c j = l := by simp [dL, h0, h1, h3]
        rw [hl]
        exact ⟨o, hk, .inr (.inr (.inr (.inr (.inr (.inr (.inr (.inr (.inr (.inr ⟨h0, h1, h3, rfl⟩)))))))))⟩

set_option maxRecDepth 100000 in
set_option maxHeartbeats 8000000 in
theorem locksOne_main (C N : Nat) (v : Value) (R : List (List Int)) (i : Nat) (w : World) (c0 : 1 ≤ C) (c8 : C ≤ 8) (n0 : 1 ≤ N) (n16 : N ≤ 16) (hi : i < N) (hR : Recs w 3 v R) (hm : R.length ≤ 100) :
    Calls Try.prog 4 #[.int .i64 (C : Int), .int .i64 (N : Int), v, .int .i64 (i : Int)] w fun e w' => e = .returned (.bool true) ∧ Below w.heap.size w w' := by
  have HR := Lib.hid hR
  obtain ⟨A, c, rfl, hA⟩ := hR
  clear hA
  obtain ⟨m, hm'⟩ : ∃ m, R.length = m := ⟨_, rfl⟩
  rw [hm'] at hm HR ⊢
  have HM := Lib.hid hm'; clear hm'
  have g3 : ¬ (100 < (m : Int)) := by omega
  have g4 : ¬ ((N : Int) ≤ (i : Int)) := by omega
  have q1 : decide ((100 : Int) < (m : Int)) = false := by simp; omega
  have q2 : decide ((i : Int) < 0) = false := by simp
  have q3 : decide (N ≤ i) = false := by simp; omega
  have q3' : decide ((N : Int) ≤ (i : Int)) = false := by simp; omega
  go_enter Try.func4, Try.ntmps4
  go_wp2_with fail
  refine (new10_yes C N _ c0 c8 n0 n16).mono ?_
  rintro e w1 ⟨g, rfl, r1, hg1, hb1⟩
  have ln := Lib.hid (len10_any g C _ w1 r1)
  rw [List.length_replicate] at ln
  have R1 := Lib.hid r1
  have HG := Lib.hid hg1
  have HB1 := Lib.hid hb1
  clear r1 hg1 hb1
  unfold ptr at ln ⊢
  go_wp2_with fail
  refine ln.out.mono ?_
  rintro e w' ⟨rfl, rfl⟩
  clear ln
  have HI : Hid ((List.replicate N (-1 : Int))[i]? = some (-1)) := Lib.hid (by rw [List.getElem?_replicate, if_pos hi])
  go_wp2
  go_loopw [10, 40] (fun ov iv wr => ∃ (k : Nat) (l : List Int) (o : Int), k ≤ m ∧ iv = .int .i64 k ∧ ov = .int .i64 o ∧ Hid (l.length = N) ∧ Hid (l[i]? = some o) ∧ Hid (BankAt wr g C l) ∧ Hid (Below w.heap.size w wr)) (fun _ iv _ => m - (intOf iv).toNat)
  case atStart => exact ⟨0, _, -1, Nat.zero_le _, rfl, rfl, Lib.hid (by simp), HI, R1, HB1⟩
  case round =>
    clear R1 HB1 HI
    obtain ⟨k, l, o, hk, rfl, rfl, HL, HO, HK, HB⟩ := hrel
    by_cases hlt : k < m
    · obtain ⟨ad, c', K, c, j, hzs, hv', hz, z0, z1, z2, hadl⟩ := Recs.three HR.out HB.out (by rw [HM.out]; exact hlt)
      rw [HM.out] at hv'
      injection hv' with hv' _ hv2
      subst hv' hv2
      clear hzs hz
      obtain ⟨o', ho', hcase⟩ := one_cases (K := K) (c := c) (j := j) HO.out (HK.out.ok i o HO.out)
      have hsz := HB.out.size
      have hglt := HK.out.row.lt
      have hgn : g ≠ wr.heap.size := by omega
      have dd := do10_any g C l K c j _ (HK.out.below (below_al wr (.cells #[.int .i64 K, .int .i64 c, .int .i64 j] 24)))
      have IR := Row.new wr 24 #[.int .i64 K, .int .i64 c, .int .i64 j]
      have dl := dL_len C l K c j
      obtain ⟨X, hX⟩ : ∃ X, dX C l K c j = X := ⟨_, rfl⟩
      obtain ⟨E, hE⟩ : ∃ E, dE C l K c j = E := ⟨_, rfl⟩
      obtain ⟨l', hl'⟩ : ∃ l', dL C l K c j = l' := ⟨_, rfl⟩
      rw [hX, hE] at hcase dd
      rw [hl'] at dl dd ho'
      rw [HL.out] at dl
      have hov : ownV l' (i : Int) = o' := by
        unfold ownV
        rw [ckL_yes (by omega) (by rw [dl]; omega), if_pos rfl]
        simp [ho']
      have hck : ckL l'.length (i : Int) = 0 := ckL_yes (by omega) (by rw [dl]; omega)
      have DD := Lib.hid dd
      have II := Lib.hid IR
      have DL := Lib.hid dl
      have HO1 := Lib.hid ho'
      have HOV := Lib.hid hov
      have HCK := Lib.hid hck
      have HHB := Lib.hid (below_on HB.out (below_al wr (.cells #[.int .i64 K, .int .i64 c, .int .i64 j] 24)))
      clear dd IR dl ho' hX hE hl' hov hck
      unfold ptr opV10 at DD

      rcases hcase with ⟨rfl, rfl, rfl, rfl, q5, rfl⟩ | ⟨rfl, rfl, rfl, rfl, q5, rfl⟩ | ⟨rfl, rfl, q5, rfl⟩ | ⟨rfl, q5, rfl⟩ | ⟨rfl, rfl, rfl, rfl, rfl⟩ | ⟨rfl, rfl, q5, rfl⟩ | ⟨rfl, q5, rfl⟩ | ⟨rfl, rfl, rfl, rfl⟩ | ⟨rfl, rfl, q5, rfl⟩ | ⟨rfl, q5, rfl⟩ | ⟨q5, q6, q7, rfl⟩
      · have q5' : decide (o < 0) = true := by simpa using q5
        go_wp2_with fail
        refine DD.out.mono ?_
        rintro e w2 ⟨rfl, hr2, ho2⟩
        have I2 := II.out.only ho2 (fun e => hgn e.symm)
        have x0 := I2.cell 0
        have x1 := I2.cell 1
        have x2 := I2.cell 2
        simp only [List.getElem?_cons_zero, List.getElem?_cons_succ] at x0 x1 x2
        have HB2 := Lib.hid (below_bank HHB.out HG.out ho2)
        have ow := owner10_any g C l' (i : Int) w2 hr2
        rw [HOV.out, HCK.out] at ow
        have R2 := Lib.hid hr2
        have OW := Lib.hid ow
        clear hr2 ho2 I2 ow
        unfold ptr at OW
        go_wp2_with fail
        refine OW.out.mono ?_
        rintro e w' ⟨rfl, rfl⟩
        go_wp2
        go_roundw
        case rel => exact ⟨k + 1, l', _, by omega, by go_num, rfl, DL, HO1, R2, HB2⟩
        case measure => simp [intOf]; omega
      · have q5' : decide (o' < 0) = false := by simp; omega
        have q6 : ¬ o' < 0 := by omega
        go_wp2_with fail
        refine DD.out.mono ?_
        rintro e w2 ⟨rfl, hr2, ho2⟩
        have I2 := II.out.only ho2 (fun e => hgn e.symm)
        have x0 := I2.cell 0
        have x1 := I2.cell 1
        have x2 := I2.cell 2
        simp only [List.getElem?_cons_zero, List.getElem?_cons_succ] at x0 x1 x2
        have HB2 := Lib.hid (below_bank HHB.out HG.out ho2)
        have ow := owner10_any g C l' (i : Int) w2 hr2
        rw [HOV.out, HCK.out] at ow
        have R2 := Lib.hid hr2
        have OW := Lib.hid ow
        clear hr2 ho2 I2 ow
        unfold ptr at OW
        go_wp2_with fail
        refine OW.out.mono ?_
        rintro e w' ⟨rfl, rfl⟩
        go_wp2
        go_roundw
        case rel => exact ⟨k + 1, l', _, by omega, by go_num, rfl, DL, HO1, R2, HB2⟩
        case measure => simp [intOf]; omega
      · have q5' : (E == 0) = false := by simpa using q5
        clear q5
        go_wp2_with fail
        refine DD.out.mono ?_
        rintro e w2 ⟨rfl, hr2, ho2⟩
        have I2 := II.out.only ho2 (fun e => hgn e.symm)
        have x0 := I2.cell 0
        have x1 := I2.cell 1
        have x2 := I2.cell 2
        simp only [List.getElem?_cons_zero, List.getElem?_cons_succ] at x0 x1 x2
        have HB2 := Lib.hid (below_bank HHB.out HG.out ho2)
        have ow := owner10_any g C l' (i : Int) w2 hr2
        rw [HOV.out, HCK.out] at ow
        have R2 := Lib.hid hr2
        have OW := Lib.hid ow
        clear hr2 ho2 I2 ow
        unfold ptr at OW
        go_wp2_with fail
        refine OW.out.mono ?_
        rintro e w' ⟨rfl, rfl⟩
        go_wp2
        go_roundw
        case rel => exact ⟨k + 1, l', _, by omega, by go_num, rfl, DL, HO1, R2, HB2⟩
        case measure => simp [intOf]; omega
      · have q5' : (j == (i : Int)) = false := by simpa using q5
        clear q5
        go_wp2_with fail
        refine DD.out.mono ?_
        rintro e w2 ⟨rfl, hr2, ho2⟩
        have I2 := II.out.only ho2 (fun e => hgn e.symm)
        have x0 := I2.cell 0
        have x1 := I2.cell 1
        have x2 := I2.cell 2
        simp only [List.getElem?_cons_zero, List.getElem?_cons_succ] at x0 x1 x2
        have HB2 := Lib.hid (below_bank HHB.out HG.out ho2)
        have ow := owner10_any g C l' (i : Int) w2 hr2
        rw [HOV.out, HCK.out] at ow
        have R2 := Lib.hid hr2
        have OW := Lib.hid ow
        clear hr2 ho2 I2 ow
        unfold ptr at OW
        go_wp2_with fail
        refine OW.out.mono ?_
        rintro e w' ⟨rfl, rfl⟩
        go_wp2
        go_roundw
        case rel => exact ⟨k + 1, l', _, by omega, by go_num, rfl, DL, HO1, R2, HB2⟩
        case measure => simp [intOf]; omega
      · go_wp2_with fail
        refine DD.out.mono ?_
        rintro e w2 ⟨rfl, hr2, ho2⟩
        have I2 := II.out.only ho2 (fun e => hgn e.symm)
        have x0 := I2.cell 0
        have x1 := I2.cell 1
        have x2 := I2.cell 2
        simp only [List.getElem?_cons_zero, List.getElem?_cons_succ] at x0 x1 x2
        have HB2 := Lib.hid (below_bank HHB.out HG.out ho2)
        have ow := owner10_any g C l' (i : Int) w2 hr2
        rw [HOV.out, HCK.out] at ow
        have R2 := Lib.hid hr2
        have OW := Lib.hid ow
        clear hr2 ho2 I2 ow
        unfold ptr at OW
        go_wp2_with fail
        refine OW.out.mono ?_
        rintro e w' ⟨rfl, rfl⟩
        go_wp2
        go_roundw
        case rel => exact ⟨k + 1, l', _, by omega, by go_num, rfl, DL, HO1, R2, HB2⟩
        case measure => simp [intOf]; omega
      · have q5' : (E == 0) = false := by simpa using q5
        clear q5
        go_wp2_with fail
        refine DD.out.mono ?_
        rintro e w2 ⟨rfl, hr2, ho2⟩
        have I2 := II.out.only ho2 (fun e => hgn e.symm)
        have x0 := I2.cell 0
        have x1 := I2.cell 1
        have x2 := I2.cell 2
        simp only [List.getElem?_cons_zero, List.getElem?_cons_succ] at x0 x1 x2
        have HB2 := Lib.hid (below_bank HHB.out HG.out ho2)
        have ow := owner10_any g C l' (i : Int) w2 hr2
        rw [HOV.out, HCK.out] at ow
        have R2 := Lib.hid hr2
        have OW := Lib.hid ow
        clear hr2 ho2 I2 ow
        unfold ptr at OW
        go_wp2_with fail
        refine OW.out.mono ?_
        rintro e w' ⟨rfl, rfl⟩
        go_wp2
        go_roundw
        case rel => exact ⟨k + 1, l', _, by omega, by go_num, rfl, DL, HO1, R2, HB2⟩
        case measure => simp [intOf]; omega
      · have q5' : (j == (i : Int)) = false := by simpa using q5
        clear q5
        go_wp2_with fail
        refine DD.out.mono ?_
        rintro e w2 ⟨rfl, hr2, ho2⟩
        have I2 := II.out.only ho2 (fun e => hgn e.symm)
        have x0 := I2.cell 0
        have x1 := I2.cell 1
        have x2 := I2.cell 2
        simp only [List.getElem?_cons_zero, List.getElem?_cons_succ] at x0 x1 x2
        have HB2 := Lib.hid (below_bank HHB.out HG.out ho2)
        have ow := owner10_any g C l' (i : Int) w2 hr2
        rw [HOV.out, HCK.out] at ow
        have R2 := Lib.hid hr2
        have OW := Lib.hid ow
        clear hr2 ho2 I2 ow
        unfold ptr at OW
        go_wp2_with fail
        refine OW.out.mono ?_
        rintro e w' ⟨rfl, rfl⟩
        go_wp2
        go_roundw
        case rel => exact ⟨k + 1, l', _, by omega, by go_num, rfl, DL, HO1, R2, HB2⟩
        case measure => simp [intOf]; omega
      · go_wp2_with fail
        refine DD.out.mono ?_
        rintro e w2 ⟨rfl, hr2, ho2⟩
        have I2 := II.out.only ho2 (fun e => hgn e.symm)
        have x0 := I2.cell 0
        have x1 := I2.cell 1
        have x2 := I2.cell 2
        simp only [List.getElem?_cons_zero, List.getElem?_cons_succ] at x0 x1 x2
        have HB2 := Lib.hid (below_bank HHB.out HG.out ho2)
        have ow := owner10_any g C l' (i : Int) w2 hr2
        rw [HOV.out, HCK.out] at ow
        have R2 := Lib.hid hr2
        have OW := Lib.hid ow
        clear hr2 ho2 I2 ow
        unfold ptr at OW
        go_wp2_with fail
        refine OW.out.mono ?_
        rintro e w' ⟨rfl, rfl⟩
        go_wp2
        go_roundw
        case rel => exact ⟨k + 1, l', _, by omega, by go_num, rfl, DL, HO1, R2, HB2⟩
        case measure => simp [intOf]; omega
      · have q5' : (o' == c) = false := by simpa using q5
        clear q5
        go_wp2_with fail
        refine DD.out.mono ?_
        rintro e w2 ⟨rfl, hr2, ho2⟩
        have I2 := II.out.only ho2 (fun e => hgn e.symm)
        have x0 := I2.cell 0
        have x1 := I2.cell 1
        have x2 := I2.cell 2
        simp only [List.getElem?_cons_zero, List.getElem?_cons_succ] at x0 x1 x2
        have HB2 := Lib.hid (below_bank HHB.out HG.out ho2)
        have ow := owner10_any g C l' (i : Int) w2 hr2
        rw [HOV.out, HCK.out] at ow
        have R2 := Lib.hid hr2
        have OW := Lib.hid ow
        clear hr2 ho2 I2 ow
        unfold ptr at OW
        go_wp2_with fail
        refine OW.out.mono ?_
        rintro e w' ⟨rfl, rfl⟩
        go_wp2
        go_roundw
        case rel => exact ⟨k + 1, l', _, by omega, by go_num, rfl, DL, HO1, R2, HB2⟩
        case measure => simp [intOf]; omega
      · have q5' : (E == 0) = false := by simpa using q5
        clear q5
        go_wp2_with fail
        refine DD.out.mono ?_
        rintro e w2 ⟨rfl, hr2, ho2⟩
        have I2 := II.out.only ho2 (fun e => hgn e.symm)
        have x0 := I2.cell 0
        have x1 := I2.cell 1
        have x2 := I2.cell 2
        simp only [List.getElem?_cons_zero, List.getElem?_cons_succ] at x0 x1 x2
        have HB2 := Lib.hid (below_bank HHB.out HG.out ho2)
        have ow := owner10_any g C l' (i : Int) w2 hr2
        rw [HOV.out, HCK.out] at ow
        have R2 := Lib.hid hr2
        have OW := Lib.hid ow
        clear hr2 ho2 I2 ow
        unfold ptr at OW
        go_wp2_with fail
        refine OW.out.mono ?_
        rintro e w' ⟨rfl, rfl⟩
        go_wp2
        go_roundw
        case rel => exact ⟨k + 1, l', _, by omega, by go_num, rfl, DL, HO1, R2, HB2⟩
        case measure => simp [intOf]; omega
      · have q5' : (K == 0) = false := by simpa using q5
        have q6' : (K == 1) = false := by simpa using q6
        have q7' : (K == 3) = false := by simpa using q7
        clear q5 q6 q7
        go_wp2_with fail
        refine DD.out.mono ?_
        rintro e w2 ⟨rfl, hr2, ho2⟩
        have I2 := II.out.only ho2 (fun e => hgn e.symm)
        have x0 := I2.cell 0
        have x1 := I2.cell 1
        have x2 := I2.cell 2
        simp only [List.getElem?_cons_zero, List.getElem?_cons_succ] at x0 x1 x2
        have HB2 := Lib.hid (below_bank HHB.out HG.out ho2)
        have ow := owner10_any g C l' (i : Int) w2 hr2
        rw [HOV.out, HCK.out] at ow
        have R2 := Lib.hid hr2
        have OW := Lib.hid ow
        clear hr2 ho2 I2 ow
        unfold ptr at OW
        go_wp2_with fail
        refine OW.out.mono ?_
        rintro e w' ⟨rfl, rfl⟩
        go_wp2
        go_roundw
        case rel => exact ⟨k + 1, l', _, by omega, by go_num, rfl, DL, HO1, R2, HB2⟩
        case measure => simp [intOf]; omega
    · obtain rfl : k = m := by omega
      go_wp2_with fail
      refine (alive10 _).mono ?_
      rintro e w4 ⟨rfl, hb4⟩
      have HB4 := Lib.hid (below_on HB.out hb4)
      clear hb4
      go_wp2
      go_ret
      exact ⟨rfl, HB4.out⟩

#print axioms locksOne_main
end Go.Proofs.Ytdpoigeeechchaa
