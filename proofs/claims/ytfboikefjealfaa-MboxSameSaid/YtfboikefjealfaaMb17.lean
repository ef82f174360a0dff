/-
  The walk of the law MboxOrder: it returns true for every input, and nothing that was there before the call changes.
  Conditions: none.
-/
import Derived.Test.YtfboikefjealfaaMb16
import Derived.IntWalk
namespace Go.Proofs.Ytfboikefjealfaa
open Go.ChangeShapes Go.WideShapes Go.ChangeAt Go.RowKit

theorem pow_small {f : Nat} (h8 : f < 8) : IntKind.i64.wrap ((2 : Int) ^ f) = 2 ^ f := by
  have : f = 0 ∨ f = 1 ∨ f = 2 ∨ f = 3 ∨ f = 4 ∨ f = 5 ∨ f = 6 ∨ f = 7 := by omega
  rcases this with rfl | rfl | rfl | rfl | rfl | rfl | rfl | rfl <;> decide

set_option maxRecDepth 100000 in
set_option maxHeartbeats 8000000 in
theorem mboxOrder_main (n : Nat) (v : Value) (R : List (List Int)) (o : Nat) (w : World) (h0 : 1 ≤ n) (h1 : n ≤ 8) (ho : o < n) (hR : Recs w 4 v R) (hm : R.length ≤ 120) :
    Calls Try.prog 5 #[.int .i64 (n : Int), v, .int .i64 (o : Int)] w fun e w' => e = .returned (.bool true) ∧ Below w.heap.size w w' := by
  obtain ⟨i0, hi0, hz0, hz1, hz2⟩ := info_parts it_info
  have HR := Lib.hid hR
  obtain ⟨A, c, rfl, hA⟩ := hR
  clear hA
  obtain ⟨m, hm'⟩ : ∃ m, R.length = m := ⟨_, rfl⟩
  rw [hm'] at hm HR ⊢
  have HM := Lib.hid hm'; clear hm'
  have g3 : ¬ (120 < (m : Int)) := by omega
  have g4 : ¬ ((n : Int) ≤ (o : Int)) := by omega
  have g5 : ¬ (8 < (n : Int)) := by omega
  have q1 : decide ((120 : Int) < (m : Int)) = false := by simp; omega
  have q2 : decide ((o : Int) < 0) = false := by simp
  have q3 : decide (n ≤ o) = false := by simp; omega
  have q3' : decide ((n : Int) ≤ (o : Int)) = false := by simp; omega
  have q4 : decide ((8 : Int) < (n : Int)) = false := by simp; omega
  go_enter Try.func5, Try.ntmps5
  go_wp2_with fail
  refine (new9_yes n _ h0 h1).mono ?_
  rintro e w1 ⟨L, rfl, r1, hn1, hb1⟩
  have h0' : OrdB w w1 L (List.replicate n mail0) [] [] (.slice none 0 0) (.slice none 0 0) := ⟨r1, World.ownsRow_nil _ _ _ _, World.ownsRow_nil _ _ _ _, (fun k hk => by cases hk), (fun k hk => by cases hk), hb1, hn1⟩
  have H0 := Lib.hid h0'
  have hz : mAt (List.replicate n mail0) (o : Int) = mail0 := by
    unfold mAt
    rw [Int.toNat_natCast, List.getD_eq_getElem?_getD, List.getElem?_replicate, if_pos ho]
    rfl
  have HZ := Lib.hid hz
  clear h0' r1 hn1 hb1 hz
  go_wp2
  go_loopw [8, 9, 10, 44] (fun vp vt bv i wr => ∃ (k : Nat) (ms : List Mail) (p t : List (Int × Int)), k ≤ m ∧ i = .int .i64 k ∧ bv = .int .i64 (maskB (mAt ms o).1) ∧ p.length ≤ k ∧ t.length ≤ k ∧ Hid (ms.length = n) ∧ Hid (p = t ++ (mAt ms o).2) ∧ Hid (OrdB w wr L ms p t vp vt)) (fun _ _ _ i _ => m - (intOf i).toNat)
  case atStart => exact ⟨0, _, [], [], Nat.zero_le _, rfl, by rw [HZ.out, maskB_mail0], by simp, by simp, Lib.hid (by simp), Lib.hid (by rw [HZ.out]; rfl), H0⟩
  case round =>
    clear H0 HZ
    obtain ⟨k, ms, p, t, hk, rfl, rfl, hpk, htk, HL, HS, S⟩ := hrel
    obtain ⟨Ap, np, cp, rfl, hnp, hcp, tp⟩ := ownB_open S.out.put
    obtain ⟨At, nt, ct, rfl, hnt, hct, tt⟩ := ownB_open S.out.tak
    obtain ⟨l, hl⟩ : ∃ l, (mAt ms o).2.length = l := ⟨_, rfl⟩
    obtain ⟨b, hb⟩ : ∃ b, maskB (mAt ms o).1 = b := ⟨_, rfl⟩
    have hsum : np = nt + l := by rw [← hnp, HS.out, List.length_append, hnt, hl]
    rw [hnp] at hpk
    rw [hnt] at htk
    rw [hb]
    have HNP := Lib.hid hnp
    have HNT := Lib.hid hnt
    have HQL := Lib.hid hl
    have HBB := Lib.hid hb
    have HSM := Lib.hid hsum
    have hsub : (np : Int) - (nt : Int) = (l : Int) := by omega
    have HO := Lib.hid (show o < ms.length by rw [HL.out]; exact ho)
    have OKM := Lib.hid (ok_o S.out.box HO.out)
    clear hl hb hsum hnp hnt hcp hct tp tt
    by_cases hlt : k < m
    · obtain ⟨ad, c', K, c, t', x, hzs, hv', hz, z0, z1, z2, z3⟩ := Recs.four HR.out S.out.below (by rw [HM.out]; exact hlt)
      rw [HM.out] at hv'
      injection hv' with hv' _ hv2
      subst hv' hv2
      clear hzs hz
      have S1 := Lib.hid (S.out.quiet (below_al wr (.cells #[.int .i64 K, .int .i64 c, .int .i64 t', .int .i64 x] 30)))
      by_cases k4 : K = 4
      · subst k4
        go_wp2
        go_roundw
        case rel => exact ⟨k + 1, ms, p, t, by omega, by go_num, by rw [HBB.out], by rw [HNP.out]; omega, by rw [HNT.out]; omega, HL, HS, S1⟩
        case measure => simp [intOf]; omega
      · have b4 : (K == 4) = false := by simpa using k4
        by_cases k0 : K = 0
        · subst k0
          clear k4 b4
          by_cases ht : t' = o
          · subst ht
            by_cases hgood : cIs ms.length c = true ∧ okW x = true
            · obtain ⟨hc, hx⟩ := hgood
              have hci := cIs_yes hc
              rw [HL.out] at hci
              obtain ⟨f, rfl⟩ := Int.eq_ofNat_of_zero_le hci.1
              have hf8 : f < 8 := by omega
              have hfn : ¬ ((n : Int) ≤ (f : Int)) := by omega
              have hw2 := pow_small hf8
              have hw3 : IntKind.u64.wrap (f : Int) = f := by simp [IntKind.wrap, IntKind.bits, IntKind.signed]; omega
              obtain ⟨b', hb'⟩ : ∃ z, maskB ((mAt ms o).1.set f true) = z := ⟨_, rfl⟩
              have hor := bits_or_set OKM.out.len hf8
              rw [HBB.out, hb'] at hor
              have hbn : (b' != bits .or .i64 b (2 ^ f)) = false := by rw [hor]; simp
              have HOR := Lib.hid hor
              have HB' := Lib.hid hb'
              clear hor hb'
              by_cases hq : (mAt ms o).2.length = 16
              · obtain ⟨hat, he⟩ := ord_full HO.out hc hx hq
                clear hc hx hq hci
                have DO := do9_any L ms 0 (f : Int) (o : Int) x _ S1.out.box
                obtain ⟨ms', hms⟩ : ∃ z, dMs ms 0 (f : Int) (o : Int) x = z := ⟨_, rfl⟩
                have hlen : ms'.length = ms.length := by rw [← hms]; exact dMs_len ms 0 (f : Int) (o : Int) x
                rw [hms] at DO hat
                rw [he] at DO
                obtain ⟨F, hF⟩ : ∃ z, dF ms 0 (f : Int) = z := ⟨_, rfl⟩
                rw [hF] at DO
                clear hF
                obtain ⟨W, hW⟩ : ∃ z, dW ms 0 (f : Int) = z := ⟨_, rfl⟩
                rw [hW] at DO
                clear hW
                unfold opV9 doV9 at DO
                have HD := Lib.hid DO
                have HAT := Lib.hid hat
                have HLN := Lib.hid hlen
                clear DO hms hat hlen
                go_wp2_with fail
                refine HD.out.mono ?_
                rintro e w2 ⟨rfl, r2, ho2⟩
                have ro := op_row9 S.out.box HLN.out ho2
                have o0 := ro.cell 0
                have o1 := ro.cell 1
                have o2 := ro.cell 2
                have o3 := ro.cell 3
                have hl2 := ro.lt
                simp only [List.getElem?_cons_zero, List.getElem?_cons_succ] at o0 o1 o2 o3
                have S2 := Lib.hid ((S1.out.step r2 HLN.out ho2).quiet (below_al w2 (.cells #[.int .i64 F, .int .i64 W] 32)))
                have n2 : w2.heap.size ≠ wr.heap.size := by omega
                have n3 : wr.heap.size ≠ w2.heap.size := by omega
                clear HD S S1 ro r2 ho2 z0 z1 z2 z3
                clear he
                have pd := Lib.hid (pend_o (b := b') S2.out.box (by rw [HLN.out]; exact HO.out) (by rw [HAT.out]; exact HB'.out))
                go_wp2_with fail
                refine pd.out.mono ?_
                rintro e w4 ⟨rfl, hb4⟩
                have S4 := Lib.hid (S2.out.quiet hb4)
                have wt := Lib.hid (waits_o (l := l) S4.out.box (by rw [HLN.out]; exact HO.out) (by rw [HAT.out]; exact HQL.out))
                clear hb4
                go_wp2_with fail
                refine wt.out.mono ?_
                rintro e w5 ⟨rfl, hb5⟩
                have S5 := Lib.hid (S4.out.quiet hb5)
                clear hb5
                go_wp2
                go_roundw
                case rel => exact ⟨k + 1, ms', p, t, by omega, by go_num, by rw [HAT.out, HOR.out, ← HB'.out]; rfl, by rw [HNP.out]; omega, by rw [HNT.out]; omega, Lib.hid (HLN.out.trans HL.out), Lib.hid (by rw [HAT.out]; exact HS.out), S5⟩
                case measure => simp [intOf]; omega
              · obtain ⟨hat, he⟩ := ord_room HO.out hc hx hq
                clear hc hx hq hci
                have DO := do9_any L ms 0 (f : Int) (o : Int) x _ S1.out.box
                obtain ⟨ms', hms⟩ : ∃ z, dMs ms 0 (f : Int) (o : Int) x = z := ⟨_, rfl⟩
                have hlen : ms'.length = ms.length := by rw [← hms]; exact dMs_len ms 0 (f : Int) (o : Int) x
                rw [hms] at DO hat
                rw [he] at DO
                obtain ⟨F, hF⟩ : ∃ z, dF ms 0 (f : Int) = z := ⟨_, rfl⟩
                rw [hF] at DO
                clear hF
                obtain ⟨W, hW⟩ : ∃ z, dW ms 0 (f : Int) = z := ⟨_, rfl⟩
                rw [hW] at DO
                clear hW
                unfold opV9 doV9 at DO
                have HD := Lib.hid DO
                have HAT := Lib.hid hat
                have HLN := Lib.hid hlen
                clear DO hms hat hlen
                go_wp2_with fail
                refine HD.out.mono ?_
                rintro e w2 ⟨rfl, r2, ho2⟩
                have ro := op_row9 S.out.box HLN.out ho2
                have o0 := ro.cell 0
                have o1 := ro.cell 1
                have o2 := ro.cell 2
                have o3 := ro.cell 3
                have hl2 := ro.lt
                simp only [List.getElem?_cons_zero, List.getElem?_cons_succ] at o0 o1 o2 o3
                have S2 := Lib.hid ((S1.out.step r2 HLN.out ho2).quiet (below_al w2 (.cells #[.int .i64 F, .int .i64 W] 32)))
                have n2 : w2.heap.size ≠ wr.heap.size := by omega
                have n3 : wr.heap.size ≠ w2.heap.size := by omega
                clear HD S S1 ro r2 ho2 z0 z1 z2 z3
                clear he
                have hs3 := S2.out.below.size
                have es : flat (its p) ++ flat [(Value.int .i64 (f : Int), Value.int .i64 x)] = flat (its (p ++ [((f : Int), x)])) := by rw [← flat_append, its_append]; rfl
                have ES := Lib.hid es; clear es
                have ow := S2.out.put
                rw [HNP.out] at ow
                go_wp2_with (at_builtin
                             refine app2_walk _ rfl (.tmp 92) (.tmp 98) 38 rfl w.heap.size 32 i0 _ 16 Try.underlying38 hi0 hz0 hz1 hz2 rfl (.slice Ap np cp) np (flat (its p)) rfl (ow.alloc _) (· = w2.heap.size + 1) (some ⟨w2.heap.size + 1, 0, none⟩) 1 1 [(.int .i64 (f : Int), .int .i64 x)] rfl (by simpa using Two.one (w2.alloc (.cells #[.int .i64 F, .int .i64 W] 32)) (.int .i64 (f : Int)) (.int .i64 x) 32 1) (Nat.le_refl _) (it_one _ _) (by unfold maxLen; omega) (by omega) (by simp at hs3; simp; omega) ?_
                             intro v3 w3 hown3 hg3 hat3
                             rw [ES.out] at hown3
                             have hown4 := hown3
                             rw [← HNP.out] at hown4
                             have S3 := Lib.hid ((S2.out.quiet (below_al _ _)).moreP hg3 hown4 hat3)
                             obtain ⟨A3, n3', c3, rfl, hn3', hcap3, htwo3⟩ := ownB_open S3.out.put
                             have hn3 : n3' = np + 1 := (by rw [← hn3', List.length_append, HNP.out]; rfl)
                             have hsub3 : (n3' : Int) - (nt : Int) = ((l + 1 : Nat) : Int) := (by omega)
                             have HN3 := Lib.hid hn3'
                             have HN4 := Lib.hid hn3
                             clear hown3 hown4 hg3 hat3 hcap3 htwo3 ow hn3' hn3)
                obtain ⟨l3, hl3⟩ : ∃ l3, l3 = l + 1 := ⟨_, rfl⟩
                have hl3b : l3 ≤ 200 := by omega
                rw [← hl3] at hsub3
                have HL3 := Lib.hid hl3
                clear hl3 hsub
                have pd := Lib.hid (pend_o (b := b') S3.out.box (by rw [HLN.out]; exact HO.out) (by rw [HAT.out]; exact HB'.out))
                go_wp2_with fail
                refine pd.out.mono ?_
                rintro e w4 ⟨rfl, hb4⟩
                have S4 := Lib.hid (S3.out.quiet hb4)
                have wt := Lib.hid (waits_o (l := l3) S4.out.box (by rw [HLN.out]; exact HO.out) (by rw [HAT.out, List.length_append, HQL.out, HL3.out]; rfl))
                clear hb4
                go_wp2_with fail
                refine wt.out.mono ?_
                rintro e w5 ⟨rfl, hb5⟩
                have S5 := Lib.hid (S4.out.quiet hb5)
                clear hb5
                go_wp2
                go_roundw
                case rel => exact ⟨k + 1, ms', p ++ [((f : Int), x)], t, by omega, by go_num, by rw [HAT.out, HOR.out, ← HB'.out]; rfl, by rw [HN3.out, HN4.out]; omega, by rw [HNT.out]; omega, Lib.hid (HLN.out.trans HL.out), Lib.hid (by rw [HAT.out, HS.out, List.append_assoc]), S5⟩
                case measure => simp [intOf]; omega
            · obtain ⟨hat, hE0, hE5⟩ := ord_bad HO.out hgood
              clear hgood
              have DO := do9_any L ms 0 c (o : Int) x _ S1.out.box
              obtain ⟨ms', hms⟩ : ∃ z, dMs ms 0 c (o : Int) x = z := ⟨_, rfl⟩
              have hlen : ms'.length = ms.length := by rw [← hms]; exact dMs_len ms 0 c (o : Int) x
              rw [hms] at DO hat
              obtain ⟨E, hE⟩ : ∃ z, dE ms 0 c (o : Int) x = z := ⟨_, rfl⟩
              rw [hE] at DO hE0 hE5
              clear hE
              obtain ⟨F, hF⟩ : ∃ z, dF ms 0 c = z := ⟨_, rfl⟩
              rw [hF] at DO
              clear hF
              obtain ⟨W, hW⟩ : ∃ z, dW ms 0 c = z := ⟨_, rfl⟩
              rw [hW] at DO
              clear hW
              unfold opV9 doV9 at DO
              have HD := Lib.hid DO
              have HAT := Lib.hid hat
              have HLN := Lib.hid hlen
              clear DO hms hat hlen
              go_wp2_with fail
              refine HD.out.mono ?_
              rintro e w2 ⟨rfl, r2, ho2⟩
              have ro := op_row9 S.out.box HLN.out ho2
              have o0 := ro.cell 0
              have o1 := ro.cell 1
              have o2 := ro.cell 2
              have o3 := ro.cell 3
              have hl2 := ro.lt
              simp only [List.getElem?_cons_zero, List.getElem?_cons_succ] at o0 o1 o2 o3
              have S2 := Lib.hid ((S1.out.step r2 HLN.out ho2).quiet (below_al w2 (.cells #[.int .i64 F, .int .i64 W] 32)))
              have n2 : w2.heap.size ≠ wr.heap.size := by omega
              have n3 : wr.heap.size ≠ w2.heap.size := by omega
              clear HD S S1 ro r2 ho2 z0 z1 z2 z3
              have pd := Lib.hid (pend_o (b := b) S2.out.box (by rw [HLN.out]; exact HO.out) (by rw [HAT.out]; exact HBB.out))
              go_wp2_with fail
              refine pd.out.mono ?_
              rintro e w4 ⟨rfl, hb4⟩
              have S4 := Lib.hid (S2.out.quiet hb4)
              have wt := Lib.hid (waits_o (l := l) S4.out.box (by rw [HLN.out]; exact HO.out) (by rw [HAT.out]; exact HQL.out))
              clear hb4
              go_wp2_with fail
              refine wt.out.mono ?_
              rintro e w5 ⟨rfl, hb5⟩
              have S5 := Lib.hid (S4.out.quiet hb5)
              clear hb5
              go_wp2
              go_roundw
              case rel => exact ⟨k + 1, ms', p, t, by omega, by go_num, by rw [HAT.out, HBB.out], by rw [HNP.out]; omega, by rw [HNT.out]; omega, Lib.hid (HLN.out.trans HL.out), Lib.hid (by rw [HAT.out]; exact HS.out), S5⟩
              case measure => simp [intOf]; omega
          · have hat := ord_far (c := c) (x := x) HO.out ht
            have hto : (t' == (o : Int)) = false := by simpa using ht
            clear ht
            have DO := do9_any L ms 0 c t' x _ S1.out.box
            obtain ⟨ms', hms⟩ : ∃ z, dMs ms 0 c t' x = z := ⟨_, rfl⟩
            have hlen : ms'.length = ms.length := by rw [← hms]; exact dMs_len ms 0 c t' x
            rw [hms] at DO hat
            obtain ⟨E, hE⟩ : ∃ z, dE ms 0 c t' x = z := ⟨_, rfl⟩
            rw [hE] at DO
            clear hE
            obtain ⟨F, hF⟩ : ∃ z, dF ms 0 c = z := ⟨_, rfl⟩
            rw [hF] at DO
            clear hF
            obtain ⟨W, hW⟩ : ∃ z, dW ms 0 c = z := ⟨_, rfl⟩
            rw [hW] at DO
            clear hW
            unfold opV9 doV9 at DO
            have HD := Lib.hid DO
            have HAT := Lib.hid hat
            have HLN := Lib.hid hlen
            clear DO hms hat hlen
            go_wp2_with fail
            refine HD.out.mono ?_
            rintro e w2 ⟨rfl, r2, ho2⟩
            have ro := op_row9 S.out.box HLN.out ho2
            have o0 := ro.cell 0
            have o1 := ro.cell 1
            have o2 := ro.cell 2
            have o3 := ro.cell 3
            have hl2 := ro.lt
            simp only [List.getElem?_cons_zero, List.getElem?_cons_succ] at o0 o1 o2 o3
            have S2 := Lib.hid ((S1.out.step r2 HLN.out ho2).quiet (below_al w2 (.cells #[.int .i64 F, .int .i64 W] 32)))
            have n2 : w2.heap.size ≠ wr.heap.size := by omega
            have n3 : wr.heap.size ≠ w2.heap.size := by omega
            clear HD S S1 ro r2 ho2 z0 z1 z2 z3
            have pd := Lib.hid (pend_o (b := b) S2.out.box (by rw [HLN.out]; exact HO.out) (by rw [HAT.out]; exact HBB.out))
            go_wp2_with fail
            refine pd.out.mono ?_
            rintro e w4 ⟨rfl, hb4⟩
            have S4 := Lib.hid (S2.out.quiet hb4)
            have wt := Lib.hid (waits_o (l := l) S4.out.box (by rw [HLN.out]; exact HO.out) (by rw [HAT.out]; exact HQL.out))
            clear hb4
            go_wp2_with fail
            refine wt.out.mono ?_
            rintro e w5 ⟨rfl, hb5⟩
            have S5 := Lib.hid (S4.out.quiet hb5)
            clear hb5
            go_wp2
            go_roundw
            case rel => exact ⟨k + 1, ms', p, t, by omega, by go_num, by rw [HAT.out, HBB.out], by rw [HNP.out]; omega, by rw [HNT.out]; omega, Lib.hid (HLN.out.trans HL.out), Lib.hid (by rw [HAT.out]; exact HS.out), S5⟩
            case measure => simp [intOf]; omega
        · have b0 : (K == 0) = false := by simpa using k0
          by_cases k2 : K = 2
          · subst k2
            clear k4 b4 k0 b0
            by_cases hc : c = o
            · subst hc
              have hat := ord_ack (t := t') (x := x) HO.out
              obtain ⟨b', hb'⟩ : ∃ z, maskB (clrB (mAt ms o).1 x) = z := ⟨_, rfl⟩
              have hor := bits_clr OKM.out.len x
              rw [HBB.out, hb'] at hor
              have hbn : (b' != bits .andNot .i64 b x) = false := by rw [hor]; simp
              have HOR := Lib.hid hor
              have HB' := Lib.hid hb'
              clear hor hb'
              have DO := do9_any L ms 2 (o : Int) t' x _ S1.out.box
              obtain ⟨ms', hms⟩ : ∃ z, dMs ms 2 (o : Int) t' x = z := ⟨_, rfl⟩
              have hlen : ms'.length = ms.length := by rw [← hms]; exact dMs_len ms 2 (o : Int) t' x
              rw [hms] at DO hat
              obtain ⟨E, hE⟩ : ∃ z, dE ms 2 (o : Int) t' x = z := ⟨_, rfl⟩
              rw [hE] at DO
              clear hE
              obtain ⟨F, hF⟩ : ∃ z, dF ms 2 (o : Int) = z := ⟨_, rfl⟩
              rw [hF] at DO
              clear hF
              obtain ⟨W, hW⟩ : ∃ z, dW ms 2 (o : Int) = z := ⟨_, rfl⟩
              rw [hW] at DO
              clear hW
              unfold opV9 doV9 at DO
              have HD := Lib.hid DO
              have HAT := Lib.hid hat
              have HLN := Lib.hid hlen
              clear DO hms hat hlen
              go_wp2_with fail
              refine HD.out.mono ?_
              rintro e w2 ⟨rfl, r2, ho2⟩
              have ro := op_row9 S.out.box HLN.out ho2
              have o0 := ro.cell 0
              have o1 := ro.cell 1
              have o2 := ro.cell 2
              have o3 := ro.cell 3
              have hl2 := ro.lt
              simp only [List.getElem?_cons_zero, List.getElem?_cons_succ] at o0 o1 o2 o3
              have S2 := Lib.hid ((S1.out.step r2 HLN.out ho2).quiet (below_al w2 (.cells #[.int .i64 F, .int .i64 W] 32)))
              have n2 : w2.heap.size ≠ wr.heap.size := by omega
              have n3 : wr.heap.size ≠ w2.heap.size := by omega
              clear HD S S1 ro r2 ho2 z0 z1 z2 z3
              have pd := Lib.hid (pend_o (b := b') S2.out.box (by rw [HLN.out]; exact HO.out) (by rw [HAT.out]; exact HB'.out))
              go_wp2_with fail
              refine pd.out.mono ?_
              rintro e w4 ⟨rfl, hb4⟩
              have S4 := Lib.hid (S2.out.quiet hb4)
              have wt := Lib.hid (waits_o (l := l) S4.out.box (by rw [HLN.out]; exact HO.out) (by rw [HAT.out]; exact HQL.out))
              clear hb4
              go_wp2_with fail
              refine wt.out.mono ?_
              rintro e w5 ⟨rfl, hb5⟩
              have S5 := Lib.hid (S4.out.quiet hb5)
              clear hb5
              go_wp2
              go_roundw
              case rel => exact ⟨k + 1, ms', p, t, by omega, by go_num, by rw [HAT.out, HOR.out, ← HB'.out], by rw [HNP.out]; omega, by rw [HNT.out]; omega, Lib.hid (HLN.out.trans HL.out), Lib.hid (by rw [HAT.out]; exact HS.out), S5⟩
              case measure => simp [intOf]; omega
            · have hat := ord_ackfar (t := t') (x := x) HO.out hc
              have hco : (c == (o : Int)) = false := by simpa using hc
              clear hc
              have DO := do9_any L ms 2 c t' x _ S1.out.box
              obtain ⟨ms', hms⟩ : ∃ z, dMs ms 2 c t' x = z := ⟨_, rfl⟩
              have hlen : ms'.length = ms.length := by rw [← hms]; exact dMs_len ms 2 c t' x
              rw [hms] at DO hat
              obtain ⟨E, hE⟩ : ∃ z, dE ms 2 c t' x = z := ⟨_, rfl⟩
              rw [hE] at DO
              clear hE
              obtain ⟨F, hF⟩ : ∃ z, dF ms 2 c = z := ⟨_, rfl⟩
              rw [hF] at DO
              clear hF
              obtain ⟨W, hW⟩ : ∃ z, dW ms 2 c = z := ⟨_, rfl⟩
              rw [hW] at DO
              clear hW
              unfold opV9 doV9 at DO
              have HD := Lib.hid DO
              have HAT := Lib.hid hat
              have HLN := Lib.hid hlen
              clear DO hms hat hlen
              go_wp2_with fail
              refine HD.out.mono ?_
              rintro e w2 ⟨rfl, r2, ho2⟩
              have ro := op_row9 S.out.box HLN.out ho2
              have o0 := ro.cell 0
              have o1 := ro.cell 1
              have o2 := ro.cell 2
              have o3 := ro.cell 3
              have hl2 := ro.lt
              simp only [List.getElem?_cons_zero, List.getElem?_cons_succ] at o0 o1 o2 o3
              have S2 := Lib.hid ((S1.out.step r2 HLN.out ho2).quiet (below_al w2 (.cells #[.int .i64 F, .int .i64 W] 32)))
              have n2 : w2.heap.size ≠ wr.heap.size := by omega
              have n3 : wr.heap.size ≠ w2.heap.size := by omega
              clear HD S S1 ro r2 ho2 z0 z1 z2 z3
              have pd := Lib.hid (pend_o (b := b) S2.out.box (by rw [HLN.out]; exact HO.out) (by rw [HAT.out]; exact HBB.out))
              go_wp2_with fail
              refine pd.out.mono ?_
              rintro e w4 ⟨rfl, hb4⟩
              have S4 := Lib.hid (S2.out.quiet hb4)
              have wt := Lib.hid (waits_o (l := l) S4.out.box (by rw [HLN.out]; exact HO.out) (by rw [HAT.out]; exact HQL.out))
              clear hb4
              go_wp2_with fail
              refine wt.out.mono ?_
              rintro e w5 ⟨rfl, hb5⟩
              have S5 := Lib.hid (S4.out.quiet hb5)
              clear hb5
              go_wp2
              go_roundw
              case rel => exact ⟨k + 1, ms', p, t, by omega, by go_num, by rw [HAT.out, HBB.out], by rw [HNP.out]; omega, by rw [HNT.out]; omega, Lib.hid (HLN.out.trans HL.out), Lib.hid (by rw [HAT.out]; exact HS.out), S5⟩
              case measure => simp [intOf]; omega
          · have b2 : (K == 2) = false := by simpa using k2
            by_cases k3 : K = 3
            · subst k3
              clear k4 b4 k0 b0 k2 b2
              by_cases hc : c = o
              · subst hc
                rcases hq : (mAt ms o).2 with _ | ⟨⟨y1, y2⟩, q⟩
                · obtain ⟨hat, he⟩ := ord_none (t := t') (x := x) HO.out hq
                  clear hq
                  have DO := do9_any L ms 3 (o : Int) t' x _ S1.out.box
                  obtain ⟨ms', hms⟩ : ∃ z, dMs ms 3 (o : Int) t' x = z := ⟨_, rfl⟩
                  have hlen : ms'.length = ms.length := by rw [← hms]; exact dMs_len ms 3 (o : Int) t' x
                  rw [hms] at DO hat
                  rw [he] at DO
                  obtain ⟨F, hF⟩ : ∃ z, dF ms 3 (o : Int) = z := ⟨_, rfl⟩
                  rw [hF] at DO
                  clear hF
                  obtain ⟨W, hW⟩ : ∃ z, dW ms 3 (o : Int) = z := ⟨_, rfl⟩
                  rw [hW] at DO
                  clear hW
                  unfold opV9 doV9 at DO
                  have HD := Lib.hid DO
                  have HAT := Lib.hid hat
                  have HLN := Lib.hid hlen
                  clear DO hms hat hlen
                  go_wp2_with fail
                  refine HD.out.mono ?_
                  rintro e w2 ⟨rfl, r2, ho2⟩
                  have ro := op_row9 S.out.box HLN.out ho2
                  have o0 := ro.cell 0
                  have o1 := ro.cell 1
                  have o2 := ro.cell 2
                  have o3 := ro.cell 3
                  have hl2 := ro.lt
                  simp only [List.getElem?_cons_zero, List.getElem?_cons_succ] at o0 o1 o2 o3
                  have S2 := Lib.hid ((S1.out.step r2 HLN.out ho2).quiet (below_al w2 (.cells #[.int .i64 F, .int .i64 W] 32)))
                  have n2 : w2.heap.size ≠ wr.heap.size := by omega
                  have n3 : wr.heap.size ≠ w2.heap.size := by omega
                  clear HD S S1 ro r2 ho2 z0 z1 z2 z3
                  clear he
                  have pd := Lib.hid (pend_o (b := b) S2.out.box (by rw [HLN.out]; exact HO.out) (by rw [HAT.out]; exact HBB.out))
                  go_wp2_with fail
                  refine pd.out.mono ?_
                  rintro e w4 ⟨rfl, hb4⟩
                  have S4 := Lib.hid (S2.out.quiet hb4)
                  have wt := Lib.hid (waits_o (l := l) S4.out.box (by rw [HLN.out]; exact HO.out) (by rw [HAT.out]; exact HQL.out))
                  clear hb4
                  go_wp2_with fail
                  refine wt.out.mono ?_
                  rintro e w5 ⟨rfl, hb5⟩
                  have S5 := Lib.hid (S4.out.quiet hb5)
                  clear hb5
                  go_wp2
                  go_roundw
                  case rel => exact ⟨k + 1, ms', p, t, by omega, by go_num, by rw [HAT.out, HBB.out], by rw [HNP.out]; omega, by rw [HNT.out]; omega, Lib.hid (HLN.out.trans HL.out), Lib.hid (by rw [HAT.out]; exact HS.out), S5⟩
                  case measure => simp [intOf]; omega
                · obtain ⟨hat, he, hfF, hwW⟩ := ord_take (t := t') (x := x) HO.out hq
                  simp only at hfF hwW
                  have HQ := Lib.hid hq
                  clear hq
                  have DO := do9_any L ms 3 (o : Int) t' x _ S1.out.box
                  obtain ⟨ms', hms⟩ : ∃ z, dMs ms 3 (o : Int) t' x = z := ⟨_, rfl⟩
                  have hlen : ms'.length = ms.length := by rw [← hms]; exact dMs_len ms 3 (o : Int) t' x
                  rw [hms] at DO hat
                  rw [he] at DO
                  rw [hfF] at DO
                  rw [hwW] at DO
                  unfold opV9 doV9 at DO
                  have HD := Lib.hid DO
                  have HAT := Lib.hid hat
                  have HLN := Lib.hid hlen
                  clear DO hms hat hlen
                  go_wp2_with fail
                  refine HD.out.mono ?_
                  rintro e w2 ⟨rfl, r2, ho2⟩
                  have ro := op_row9 S.out.box HLN.out ho2
                  have o0 := ro.cell 0
                  have o1 := ro.cell 1
                  have o2 := ro.cell 2
                  have o3 := ro.cell 3
                  have hl2 := ro.lt
                  simp only [List.getElem?_cons_zero, List.getElem?_cons_succ] at o0 o1 o2 o3
                  have S2 := Lib.hid ((S1.out.step r2 HLN.out ho2).quiet (below_al w2 (.cells #[.int .i64 y1, .int .i64 y2] 32)))
                  have n2 : w2.heap.size ≠ wr.heap.size := by omega
                  have n3 : wr.heap.size ≠ w2.heap.size := by omega
                  clear HD S S1 ro r2 ho2 z0 z1 z2 z3
                  clear he hfF hwW
                  have hs3 := S2.out.below.size
                  have es : flat (its t) ++ flat [(Value.int .i64 y1, Value.int .i64 y2)] = flat (its (t ++ [(y1, y2)])) := by rw [← flat_append, its_append]; rfl
                  have ES := Lib.hid es; clear es
                  have ow := S2.out.tak
                  rw [HNT.out] at ow
                  obtain ⟨l3, hl3⟩ : ∃ l3, q.length = l3 := ⟨_, rfl⟩
                  have hlq : l = l3 + 1 := by rw [← HQL.out, HQ.out, List.length_cons, hl3]
                  have hl3b : l3 ≤ 200 := by omega
                  have HL3 := Lib.hid hl3
                  clear hl3
                  go_wp2_with (at_builtin
                               refine app2_walk _ rfl (.tmp 128) (.tmp 130) 38 rfl w.heap.size 32 i0 _ 16 Try.underlying38 hi0 hz0 hz1 hz2 rfl (.slice At nt ct) nt (flat (its t)) rfl (ow.alloc _) (· = w2.heap.size + 1) (some ⟨w2.heap.size + 1, 0, none⟩) 1 1 [(.int .i64 y1, .int .i64 y2)] rfl (by simpa using Two.one (w2.alloc (.cells #[.int .i64 y1, .int .i64 y2] 32)) (.int .i64 y1) (.int .i64 y2) 32 1) (Nat.le_refl _) (it_one _ _) (by unfold maxLen; omega) (by omega) (by simp at hs3; simp; omega) ?_
                               intro v3 w3 hown3 hg3 hat3
                               rw [ES.out] at hown3
                               have hown4 := hown3
                               rw [← HNT.out] at hown4
                               have S3 := Lib.hid ((S2.out.quiet (below_al _ _)).moreT hg3 hown4 hat3)
                               obtain ⟨A3, n3', c3, rfl, hn3', hcap3, htwo3⟩ := ownB_open S3.out.tak
                               have hn3 : n3' = nt + 1 := (by rw [← hn3', List.length_append, HNT.out]; rfl)
                               have hsub3 : (np : Int) - (n3' : Int) = (l3 : Int) := (by omega)
                               have HN3 := Lib.hid hn3'
                               have HN4 := Lib.hid hn3
                               clear hown3 hown4 hg3 hat3 hcap3 htwo3 ow hn3' hsub hn3)
                  have pd := Lib.hid (pend_o (b := b) S3.out.box (by rw [HLN.out]; exact HO.out) (by rw [HAT.out]; exact HBB.out))
                  go_wp2_with fail
                  refine pd.out.mono ?_
                  rintro e w4 ⟨rfl, hb4⟩
                  have S4 := Lib.hid (S3.out.quiet hb4)
                  have wt := Lib.hid (waits_o (l := l3) S4.out.box (by rw [HLN.out]; exact HO.out) (by rw [HAT.out]; exact HL3.out))
                  clear hb4
                  go_wp2_with fail
                  refine wt.out.mono ?_
                  rintro e w5 ⟨rfl, hb5⟩
                  have S5 := Lib.hid (S4.out.quiet hb5)
                  clear hb5
                  go_wp2
                  go_roundw
                  case rel => exact ⟨k + 1, ms', p, t ++ [(y1, y2)], by omega, by go_num, by rw [HAT.out, HBB.out], by rw [HNP.out]; omega, by rw [HN3.out, HN4.out]; omega, Lib.hid (HLN.out.trans HL.out), Lib.hid (by rw [HAT.out, HS.out, HQ.out, List.append_assoc]; rfl), S5⟩
                  case measure => simp [intOf]; omega
              · have hat := ord_takefar (t := t') (x := x) HO.out hc
                have hco : (c == (o : Int)) = false := by simpa using hc
                clear hc
                have DO := do9_any L ms 3 c t' x _ S1.out.box
                obtain ⟨ms', hms⟩ : ∃ z, dMs ms 3 c t' x = z := ⟨_, rfl⟩
                have hlen : ms'.length = ms.length := by rw [← hms]; exact dMs_len ms 3 c t' x
                rw [hms] at DO hat
                obtain ⟨E, hE⟩ : ∃ z, dE ms 3 c t' x = z := ⟨_, rfl⟩
                rw [hE] at DO
                clear hE
                obtain ⟨F, hF⟩ : ∃ z, dF ms 3 c = z := ⟨_, rfl⟩
                rw [hF] at DO
                clear hF
                obtain ⟨W, hW⟩ : ∃ z, dW ms 3 c = z := ⟨_, rfl⟩
                rw [hW] at DO
                clear hW
                unfold opV9 doV9 at DO
                have HD := Lib.hid DO
                have HAT := Lib.hid hat
                have HLN := Lib.hid hlen
                clear DO hms hat hlen
                go_wp2_with fail
                refine HD.out.mono ?_
                rintro e w2 ⟨rfl, r2, ho2⟩
                have ro := op_row9 S.out.box HLN.out ho2
                have o0 := ro.cell 0
                have o1 := ro.cell 1
                have o2 := ro.cell 2
                have o3 := ro.cell 3
                have hl2 := ro.lt
                simp only [List.getElem?_cons_zero, List.getElem?_cons_succ] at o0 o1 o2 o3
                have S2 := Lib.hid ((S1.out.step r2 HLN.out ho2).quiet (below_al w2 (.cells #[.int .i64 F, .int .i64 W] 32)))
                have n2 : w2.heap.size ≠ wr.heap.size := by omega
                have n3 : wr.heap.size ≠ w2.heap.size := by omega
                clear HD S S1 ro r2 ho2 z0 z1 z2 z3
                have pd := Lib.hid (pend_o (b := b) S2.out.box (by rw [HLN.out]; exact HO.out) (by rw [HAT.out]; exact HBB.out))
                go_wp2_with fail
                refine pd.out.mono ?_
                rintro e w4 ⟨rfl, hb4⟩
                have S4 := Lib.hid (S2.out.quiet hb4)
                have wt := Lib.hid (waits_o (l := l) S4.out.box (by rw [HLN.out]; exact HO.out) (by rw [HAT.out]; exact HQL.out))
                clear hb4
                go_wp2_with fail
                refine wt.out.mono ?_
                rintro e w5 ⟨rfl, hb5⟩
                have S5 := Lib.hid (S4.out.quiet hb5)
                clear hb5
                go_wp2
                go_roundw
                case rel => exact ⟨k + 1, ms', p, t, by omega, by go_num, by rw [HAT.out, HBB.out], by rw [HNP.out]; omega, by rw [HNT.out]; omega, Lib.hid (HLN.out.trans HL.out), Lib.hid (by rw [HAT.out]; exact HS.out), S5⟩
                case measure => simp [intOf]; omega
            · have b3 : (K == 3) = false := by simpa using k3
              have hat := ord_else (ms := ms) (c := c) (t := t') (x := x) (o := o) k0 k2 k3 k4
              clear k0 k2 k3 k4
              have DO := do9_any L ms K c t' x _ S1.out.box
              obtain ⟨ms', hms⟩ : ∃ z, dMs ms K c t' x = z := ⟨_, rfl⟩
              have hlen : ms'.length = ms.length := by rw [← hms]; exact dMs_len ms K c t' x
              rw [hms] at DO hat
              obtain ⟨E, hE⟩ : ∃ z, dE ms K c t' x = z := ⟨_, rfl⟩
              rw [hE] at DO
              clear hE
              obtain ⟨F, hF⟩ : ∃ z, dF ms K c = z := ⟨_, rfl⟩
              rw [hF] at DO
              clear hF
              obtain ⟨W, hW⟩ : ∃ z, dW ms K c = z := ⟨_, rfl⟩
              rw [hW] at DO
              clear hW
              unfold opV9 doV9 at DO
              have HD := Lib.hid DO
              have HAT := Lib.hid hat
              have HLN := Lib.hid hlen
              clear DO hms hat hlen
              go_wp2_with fail
              refine HD.out.mono ?_
              rintro e w2 ⟨rfl, r2, ho2⟩
              have ro := op_row9 S.out.box HLN.out ho2
              have o0 := ro.cell 0
              have o1 := ro.cell 1
              have o2 := ro.cell 2
              have o3 := ro.cell 3
              have hl2 := ro.lt
              simp only [List.getElem?_cons_zero, List.getElem?_cons_succ] at o0 o1 o2 o3
              have S2 := Lib.hid ((S1.out.step r2 HLN.out ho2).quiet (below_al w2 (.cells #[.int .i64 F, .int .i64 W] 32)))
              have n2 : w2.heap.size ≠ wr.heap.size := by omega
              have n3 : wr.heap.size ≠ w2.heap.size := by omega
              clear HD S S1 ro r2 ho2 z0 z1 z2 z3
              have pd := Lib.hid (pend_o (b := b) S2.out.box (by rw [HLN.out]; exact HO.out) (by rw [HAT.out]; exact HBB.out))
              go_wp2_with fail
              refine pd.out.mono ?_
              rintro e w4 ⟨rfl, hb4⟩
              have S4 := Lib.hid (S2.out.quiet hb4)
              have wt := Lib.hid (waits_o (l := l) S4.out.box (by rw [HLN.out]; exact HO.out) (by rw [HAT.out]; exact HQL.out))
              clear hb4
              go_wp2_with fail
              refine wt.out.mono ?_
              rintro e w5 ⟨rfl, hb5⟩
              have S5 := Lib.hid (S4.out.quiet hb5)
              clear hb5
              go_wp2
              go_roundw
              case rel => exact ⟨k + 1, ms', p, t, by omega, by go_num, by rw [HAT.out, HBB.out], by rw [HNP.out]; omega, by rw [HNT.out]; omega, Lib.hid (HLN.out.trans HL.out), Lib.hid (by rw [HAT.out]; exact HS.out), S5⟩
              case measure => simp [intOf]; omega
    · obtain rfl : k = m := by omega
      have HA := Lib.hid (fun W => alive9 W)
      go_wp2_with fail
      go_loopw [159] (fun i wq => ∃ j : Nat, j ≤ nt ∧ i = .int .i64 j ∧ Hid (OrdB w wq L ms p t (.slice Ap np cp) (.slice At nt ct))) (fun i _ => nt - (intOf i).toNat)
      case atStart => exact ⟨0, Nat.zero_le _, rfl, S⟩
      case round =>
        obtain ⟨wo, rfl⟩ : ∃ wo, wo = wr := ⟨_, rfl⟩
        clear S
        obtain ⟨j, hj, rfl, S⟩ := hrel
        by_cases hjl : j < nt
        · obtain ⟨⟨y1, y2⟩, hy⟩ : ∃ y, t[j]? = some y := ⟨_, List.getElem?_eq_getElem (by rw [HNT.out]; exact hjl)⟩
          have hy' : p[j]? = some (y1, y2) := by rw [HS.out, List.getElem?_append_left (by rw [HNT.out]; exact hjl)]; exact hy
          obtain ⟨_, _, _, e1, _, _, tp⟩ := ownB_open S.out.put
          injection e1 with e1a e1b e1c
          subst e1a e1b e1c
          obtain ⟨_, _, _, e2, _, _, tt⟩ := ownB_open S.out.tak
          injection e2 with e2a e2b e2c
          subst e2a e2b e2c
          obtain ⟨gp, op, rfl, _, hgp, cp0, cp1⟩ := tp.cells (its_at hy')
          obtain ⟨gt, ot, rfl, _, hgt, ct0, ct1⟩ := tt.cells (its_at hy)
          simp only at cp0 cp1 ct0 ct1
          have nq := fun W => neq_it_same y1 y2 W
          have hjp : (j : Int) < (np : Int) := by have := HSM.out; omega
          have hj0 : (0 : Int) ≤ (j : Int) := by omega
          have hjn : decide (np ≤ j) = false := by simp; omega
          have hjn' : decide ((np : Int) ≤ (j : Int)) = false := by simp; omega
          have S1 := Lib.hid (S.out.quiet (below_al wo (.cells #[.int .i64 y1, .int .i64 y2] 32)))
          have ngp : gp ≠ wo.heap.size := by omega
          clear tp tt hy hy' hgt
          go_wp2
          go_quiet (fail)
          go_wp2
          go_roundw
          case rel => exact ⟨j + 1, by omega, by go_num, Lib.hid (S1.out.quiet (below_q _ _))⟩
          case measure => simp [intOf]; omega
        · obtain rfl : j = nt := by omega
          go_wp2_with fail
          refine (HA.out _).mono ?_
          rintro e w6 ⟨rfl, hb6⟩
          go_wp2
          go_ret
          exact ⟨rfl, below_on S.out.below hb6⟩

set_option maxRecDepth 100000 in
set_option maxHeartbeats 1000000 in
theorem mboxOrder_any (n : Int) (v : Value) (R : List (List Int)) (q : Int) (w : World) (hR : Recs w 4 v R) (hm : R.length ≤ maxLen) :
    Calls Try.prog 5 #[.int .i64 n, v, .int .i64 q] w fun e w' => e = .returned (.bool true) ∧ Below w.heap.size w w' := by
  unfold maxLen at hm
  have al := fun W => Lib.hid (alive9 W)
  by_cases h3 : n < 1 ∨ 8 < n
  · obtain ⟨A, c, rfl, hA⟩ := hR
    clear hA
    have nw := Lib.hid (new9_no n w h3)
    clear h3
    go_enter Try.func5, Try.ntmps5
    go_wp2_with (first
      | (go_at_call 8; refine nw.out.mono ?_; rintro e w' ⟨rfl, rfl⟩)
      | (go_at_call 7; refine (al _).out.mono ?_; rintro e w3 ⟨rfl, hb3⟩))
    go_ret
    exact ⟨rfl, hb3⟩
  · obtain ⟨N, rfl⟩ := Int.eq_ofNat_of_zero_le (show 0 ≤ n by omega)
    have nw := Lib.hid (new9_yes N w (by omega) (by omega))
    by_cases h1 : 120 < R.length
    · obtain ⟨A, c, rfl, hA⟩ := hR
      clear hA
      have h1' : decide ((120 : Int) < (R.length : Int)) = true := by simp; omega
      have h1'' : decide (120 < R.length) = true := by simp; omega
      clear h3
      go_enter Try.func5, Try.ntmps5
      go_wp2_with (first
        | (go_at_call 8; refine nw.out.mono ?_; rintro e w1 ⟨L, rfl, r1, hn1, hb1⟩)
        | (go_at_call 7; refine (al _).out.mono ?_; rintro e w3 ⟨rfl, hb3⟩))
      go_ret
      exact ⟨rfl, below_on hb1 hb3⟩
    · have h1' : decide ((120 : Int) < (R.length : Int)) = false := by simp; omega
      by_cases h2 : q < 0
      · obtain ⟨A, c, rfl, hA⟩ := hR
        clear hA
        have h2' : decide (q < 0) = true := by simpa using h2
        clear h3
        go_enter Try.func5, Try.ntmps5
        go_wp2_with (first
          | (go_at_call 8; refine nw.out.mono ?_; rintro e w1 ⟨L, rfl, r1, hn1, hb1⟩)
          | (go_at_call 7; refine (al _).out.mono ?_; rintro e w3 ⟨rfl, hb3⟩))
        go_ret
        exact ⟨rfl, below_on hb1 hb3⟩
      · obtain ⟨o, rfl⟩ := Int.eq_ofNat_of_zero_le (show 0 ≤ q by omega)
        by_cases h4 : N ≤ o
        · obtain ⟨A, c, rfl, hA⟩ := hR
          clear hA
          have h2' : decide ((o : Int) < 0) = false := by simp
          have h4' : decide ((N : Int) ≤ (o : Int)) = true := by simp; omega
          have h4'' : decide (N ≤ o) = true := by simp; omega
          clear h3
          go_enter Try.func5, Try.ntmps5
          go_wp2_with (first
            | (go_at_call 8; refine nw.out.mono ?_; rintro e w1 ⟨L, rfl, r1, hn1, hb1⟩)
            | (go_at_call 7; refine (al _).out.mono ?_; rintro e w3 ⟨rfl, hb3⟩))
          go_ret
          exact ⟨rfl, below_on hb1 hb3⟩
        · exact mboxOrder_main N v R o w (by omega) (by omega) (by omega) hR (by omega)

#print axioms mboxOrder_main
#print axioms mboxOrder_any
end Go.Proofs.Ytfboikefjealfaa
