/-
  The walk of the law MboxPlays: it returns true for every input, and nothing that was there before the call changes.
  Conditions: none.
-/
import Derived.Test.YtfboikefjealfaaMb18
namespace Go.Proofs.Ytfboikefjealfaa
open Go.ChangeShapes Go.WideShapes Go.ChangeAt Go.RowKit

set_option maxRecDepth 100000 in
set_option maxHeartbeats 4000000 in
theorem mboxPlays_main (n : Nat) (v : Value) (R : List (List Int)) (w : World) (h0 : 1 ≤ n) (h1 : n ≤ 8) (hR : Recs w 4 v R) (hm : R.length ≤ 120) :
    Calls Try.prog 3 #[.int .i64 (n : Int), v] w fun e w' => e = .returned (.bool true) ∧ Below w.heap.size w w' := by
  have HR := Lib.hid hR
  obtain ⟨A, c, rfl, hA⟩ := hR
  clear hA
  obtain ⟨m, hm'⟩ : ∃ m, R.length = m := ⟨_, rfl⟩
  rw [hm'] at hm HR ⊢
  have HM := Lib.hid hm'; clear hm'
  have g3 : ¬ (120 < (m : Int)) := by omega
  have q1 : decide ((120 : Int) < (m : Int)) = false := by simp; omega
  have hmk := fun W => run_make_rowN (P := Try.prog) 28 40 _ 9 32 Try.underlying28 core_info .i64 .i64 n (by omega) (by omega) W
  obtain ⟨Z, hZ⟩ : ∃ Z, Z = madeCells (Value.cells (.agg #[.bool false, .bool false, .bool false, .bool false, .bool false, .bool false, .bool false, .bool false, .slice none 0 0])) (n * 9) := ⟨_, rfl⟩
  rw [← hZ] at hmk
  have HZ := Lib.hid hZ
  clear hZ
  have IS := fun W => ris9_any (n : Int) W
  simp only [show isC (n : Int) = true from by unfold isC; simp; omega] at IS
  have HIS := Lib.hid IS
  clear IS
  have hcIs : Hid (cIs n (n : Int) = false) := Lib.hid (by unfold cIs; simp)
  have hcIm : Hid (cIs n (-1) = false) := Lib.hid (by unfold cIs; simp)
  go_enter Try.func3, Try.ntmps3
  go_wp2_with fail
  refine (new9_yes n _ h0 h1).mono ?_
  rintro e w1 ⟨L, rfl, r1, hn1, hb1⟩
  go_wp2_with fail
  refine (HIS.out _).mono ?_
  rintro e w' ⟨rfl, rfl⟩
  have hnew := r1.new_not (Nat.le_refl w1.heap.size)
  rw [List.length_replicate] at hnew hn1
  have P0 : PlayB w (w1.alloc (.cells Z 40)) L n (List.replicate n mail0) (List.replicate n mail0) (.slice (some ⟨w1.heap.size, 0, none⟩) n n) :=
    ⟨r1.below (below_al _ _), by rw [HZ.out]; exact RBox.new (fun b => ¬ L.fp n b) hnew h0 h1, by simp, below_on hb1 (below_al _ _), hn1⟩
  have H0 := Lib.hid P0
  clear P0 r1 hn1 hb1 hnew
  go_wp2
  go_loopw [6, 42] (fun vv i wr => ∃ (k : Nat) (ms : List Mail) (A6 : Option Addr) (c6 : Nat), k ≤ m ∧ i = .int .i64 k ∧ vv = .slice A6 n c6 ∧ Hid (PlayB w wr L n ms ms (.slice A6 n c6))) (fun _ i _ => m - (intOf i).toNat)
  case atStart => exact ⟨0, _, _, _, Nat.zero_le _, rfl, rfl, H0⟩
  case round =>
    clear H0
    obtain ⟨k, ms, A6, c6, hk, rfl, rfl, S⟩ := hrel
    by_cases hlt : k < m
    · obtain ⟨ad, c', K, c, t', x, hzs, hv', hz, z0, z1, z2, z3⟩ := Recs.four HR.out S.out.below (by rw [HM.out]; exact hlt)
      rw [HM.out] at hv'
      injection hv' with hv' _ hv2
      subst hv' hv2
      have hx := hz x (by simp)
      clear hzs hz
      have S1 := Lib.hid (S.out.quiet (below_al wr (.cells #[.int .i64 K, .int .i64 c, .int .i64 t', .int .i64 x] 30)))
      have hop := Lib.hid (Row.new wr 30 #[.int .i64 K, .int .i64 c, .int .i64 t', .int .i64 x])
      have RD := rdo9_any (fun b => ¬ L.fp n b) ms (.slice A6 n c6) K c t' x _ S1.out.ref hx (fun b hb => S1.out.far hb)
      have DO := fun W (r : BoxAt W L ms) => do9_any L ms K c t' x W r
      obtain ⟨F, hF⟩ : ∃ z, dF ms K c = z := ⟨_, rfl⟩
      obtain ⟨V, hV⟩ : ∃ z, dW ms K c = z := ⟨_, rfl⟩
      obtain ⟨E, hE⟩ : ∃ z, dE ms K c t' x = z := ⟨_, rfl⟩
      obtain ⟨ms', hms⟩ : ∃ z, dMs ms K c t' x = z := ⟨_, rfl⟩
      have hlen : ms'.length = ms.length := by rw [← hms]; exact dMs_len _ _ _ _ _
      rw [hF, hV, hE, hms] at RD
      simp only [hF, hV, hE, hms] at DO
      unfold opV9 at RD DO
      unfold doV9 at DO
      have HRD := Lib.hid RD
      have HDO := Lib.hid DO
      have HLN := Lib.hid hlen
      have nq := fun W => neq_it_same F V W
      have ne : (E != E) = false := by simp
      have hwl := S.out.new
      clear RD DO hF hV hE hms hlen hx
      go_wp2_with fail
      refine HRD.out.mono ?_
      rintro e w3 ⟨A3, n3, c3, rfl, hr3, hb3⟩
      dsimp only
      have hn3 : n3 = n := by
        obtain ⟨A', c'', e3⟩ := hr3.open_
        injection e3 with _ e3 _
        rw [e3, HLN.out, S.out.len]
      subst hn3
      have S3 := Lib.hid ((S1.out.mid hr3 hb3).quiet (below_al w3 (.cells #[.int .i64 F, .int .i64 V] 32)))
      have ro := (hop.out.below hb3)
      have o0 := ro.cell 0
      have o1 := ro.cell 1
      have o2 := ro.cell 2
      have o3 := ro.cell 3
      simp only [List.getElem?_cons_zero, List.getElem?_cons_succ] at o0 o1 o2 o3
      have l3 := ro.lt
      have n3a : wr.heap.size ≠ w3.heap.size := by omega
      have it0 := Lib.hid (Row.new w3 32 #[.int .i64 F, .int .i64 V])
      clear hr3 hb3 S1 hop ro
      go_wp2_with fail
      refine (HDO.out _ S3.out.box).mono ?_
      rintro e w4 ⟨rfl, hr4, ho4⟩
      have it4 := it0.out.only ho4 (by have h := S.out.far (show wr.heap.size ≤ w3.heap.size by omega); rw [HLN.out, S.out.len]; exact h)
      have i0 := it4.cell 0
      have i1 := it4.cell 1
      simp only [List.getElem?_cons_zero, List.getElem?_cons_succ] at i0 i1
      have l4 := it4.lt
      have n4a : w3.heap.size ≠ w4.heap.size := by omega
      have S4 := Lib.hid ((S3.out.step hr4 HLN.out ho4).quiet (below_al w4 (.cells #[.int .i64 F, .int .i64 V] 32)))
      clear it0 it4 hr4 ho4 o0 o1 o2 o3 S3
      go_wp2_with fail
      go_roundw
      case rel => exact ⟨k + 1, ms', A3, c3, by omega, by go_num, rfl, S4⟩
      case measure => simp [intOf]; omega
    · obtain rfl : k = m := by omega
      clear hmk HZ HIS
      go_wp2_with fail
      go_loopw [71] (fun i wq => ∃ j : Nat, j ≤ n ∧ i = .int .i64 j ∧ Hid (PlayB w wq L n (emp ms j) ms (.slice A6 n c6))) (fun i _ => n - (intOf i).toNat)
      case atStart => exact ⟨0, Nat.zero_le _, rfl, by rw [emp_zero]; exact S⟩
      case round =>
        obtain ⟨wo, rfl⟩ : ∃ wo, wo = wr := ⟨_, rfl⟩
        clear S
        obtain ⟨j, hj, rfl, S⟩ := hrel
        by_cases hjl : j < n
        · obtain ⟨m0, hm0⟩ : ∃ x, ms[j]? = some x := ⟨_, List.getElem?_eq_getElem (by have := S.out.len; rw [emp_len] at this; omega)⟩
          obtain ⟨g, o, lv, rfl, hPg, hgl, hcell, hv, hcv⟩ := S.out.ref.core hm0
          have hk := S.out.ref.ok j m0 hm0
          obtain ⟨Av, nv, cv, rfl, HNV, HV⟩ := hv.open_
          obtain ⟨b0, b1, b2, b3, b4, b5, b6, b7, hbs⟩ := bools8 hk.len
          have hlit := rcL_lit hbs (.slice Av nv cv)
          rw [hlit] at hcell
          have HNQ : Hid (m0.2.length = nv) := Lib.hid (by have := HNV.out; rwa [its_len] at this)
          have x0 := hcell 0 _ rfl
          have x1 := hcell 1 _ rfl
          have x2 := hcell 2 _ rfl
          have x3 := hcell 3 _ rfl
          have x4 := hcell 4 _ rfl
          have x5 := hcell 5 _ rfl
          have x6 := hcell 6 _ rfl
          have x7 := hcell 7 _ rfl
          have x8 := hcell 8 _ rfl
          rw [Nat.add_zero] at x0
          have hgne : g ≠ wo.heap.size := by omega
          have S1 := Lib.hid (S.out.quiet (below_al wo (.cells #[.bool b0, .bool b1, .bool b2, .bool b3, .bool b4, .bool b5, .bool b6, .bool b7, .slice Av nv cv] 40)))
          have ROW := Lib.hid (Row.new wo 40 #[.bool b0, .bool b1, .bool b2, .bool b3, .bool b4, .bool b5, .bool b6, .bool b7, .slice Av nv cv])
          have HV1 := Lib.hid (HV.out.below (below_al wo (.cells #[.bool b0, .bool b1, .bool b2, .bool b3, .bool b4, .bool b5, .bool b6, .bool b7, .slice Av nv cv] 40)))
          have MK := fun W => rmask9 m0 (.slice Av nv cv) W hk
          have hcvv : coreV m0 (.slice Av nv cv) = .agg #[.bool b0, .bool b1, .bool b2, .bool b3, .bool b4, .bool b5, .bool b6, .bool b7, .slice Av nv cv] := by unfold coreV; rw [hlit]
          simp only [hcvv] at MK
          obtain ⟨B, hB⟩ : ∃ B, maskB m0.1 = B := ⟨_, rfl⟩
          have eat : mAt (emp ms j) (j : Int) = m0 := mAt_of (emp_at hm0)
          have hjlen : j < (emp ms j).length := by rw [S.out.len]; exact hjl
          have pd := Lib.hid (pend_o (b := B) S1.out.box hjlen (by rw [eat]; exact hB))
          have nB : (B != B) = false := by simp
          have nN : ((nv : Int) != (nv : Int)) = false := by simp
          simp only [hB] at MK
          have HMK := Lib.hid MK
          have HM0 := Lib.hid hm0
          have HEAT := Lib.hid eat
          have HCV := Lib.hid hcv
          have HJL := Lib.hid hjlen
          have n16 : nv ≤ 16 := by have := hk.fit; have := HNQ.out; omega
          clear hv hcell hlit hbs hk hcvv hB eat hm0 MK hcv hjlen HV HNV
          go_wp2_with fail
          refine pd.out.mono ?_
          rintro e w4 ⟨rfl, hb4⟩
          have S4 := Lib.hid (S1.out.quiet hb4)
          have HV4 := Lib.hid (HV1.out.below hb4)
          have ro := ROW.out.below hb4
          have RO := Lib.hid ro
          have bb : Below w4.heap.size w4 w4 := Below.refl _ _
          have KK := Lib.hid (fun (W : World) (hb : Below w4.heap.size w4 W) => (show W.cell? ⟨wo.heap.size, 0, none⟩ = some (.bool b0) ∧ W.cell? ⟨wo.heap.size, 1, none⟩ = some (.bool b1) ∧ W.cell? ⟨wo.heap.size, 2, none⟩ = some (.bool b2) ∧ W.cell? ⟨wo.heap.size, 3, none⟩ = some (.bool b3) ∧ W.cell? ⟨wo.heap.size, 4, none⟩ = some (.bool b4) ∧ W.cell? ⟨wo.heap.size, 5, none⟩ = some (.bool b5) ∧ W.cell? ⟨wo.heap.size, 6, none⟩ = some (.bool b6) ∧ W.cell? ⟨wo.heap.size, 7, none⟩ = some (.bool b7) ∧ W.cell? ⟨wo.heap.size, 8, none⟩ = some (.slice Av nv cv) ∧ Below w4.heap.size w4 W from ⟨(RO.out.below hb).cell 0, (RO.out.below hb).cell 1, (RO.out.below hb).cell 2, (RO.out.below hb).cell 3, (RO.out.below hb).cell 4, (RO.out.below hb).cell 5, (RO.out.below hb).cell 6, (RO.out.below hb).cell 7, (RO.out.below hb).cell 8, hb⟩))
          have MKS := Lib.hid (fun W (hb : Below w4.heap.size w4 W) => (HMK.out W).mono (R' := fun e w' => e = .returned (.int .i64 B) ∧ Below w4.heap.size w4 w') (fun e w' ⟨he, hb'⟩ => ⟨he, below_on hb hb'⟩))
          have WTS := Lib.hid (fun W (hb : Below w4.heap.size w4 W) => (waits_o (l := nv) (S4.out.box.below hb) HJL.out (by rw [HEAT.out]; exact HNQ.out)).mono (R' := fun e w' => e = .returned (.int .i64 (nv : Int)) ∧ Below w4.heap.size w4 w') (fun e w' ⟨he, hb'⟩ => ⟨he, below_on hb hb'⟩))
          clear hb4 ro pd S1 HV1 S x0 x1 x2 x3 x4 x5 x6 x7 x8
          go_wp2_with fail
          go_region_held3 (fun W => W.cell? ⟨wo.heap.size, 0, none⟩ = some (.bool b0) ∧ W.cell? ⟨wo.heap.size, 1, none⟩ = some (.bool b1) ∧ W.cell? ⟨wo.heap.size, 2, none⟩ = some (.bool b2) ∧ W.cell? ⟨wo.heap.size, 3, none⟩ = some (.bool b3) ∧ W.cell? ⟨wo.heap.size, 4, none⟩ = some (.bool b4) ∧ W.cell? ⟨wo.heap.size, 5, none⟩ = some (.bool b5) ∧ W.cell? ⟨wo.heap.size, 6, none⟩ = some (.bool b6) ∧ W.cell? ⟨wo.heap.size, 7, none⟩ = some (.bool b7) ∧ W.cell? ⟨wo.heap.size, 8, none⟩ = some (.slice Av nv cv) ∧ Below w4.heap.size w4 W)
            (first | exact KK.out _ hb6 | exact KK.out _ hb5 | exact KK.out _ bb.drew | exact KK.out _ bb | go_keep)
            (first
              | (go_at_call 13; refine (MKS.out _ ?_).mono ?_; (go_split_ands; assumption); rintro e w5 ⟨rfl, hb5⟩)
              | (go_at_call 14; refine (WTS.out _ ?_).mono ?_; (go_split_ands; assumption); rintro e w6 ⟨rfl, hb6⟩))
          have x8 : w6.cell? ⟨wo.heap.size, 8, none⟩ = some (.slice Av nv cv) := (RO.out.below hb6).cell 8
          have S6 := Lib.hid (S4.out.quiet hb6)
          have HV6 := Lib.hid (HV4.out.below hb6)
          clear MKS WTS KK RO S4 HV4 hb6 hb5 bb HMK
          go_wp2_with fail
          obtain ⟨bs, q⟩ := m0
          go_loopw [102] (fun i wq => ∃ d : Nat, d ≤ nv ∧ i = .int .i64 d ∧ Hid (PlayB w wq L n ((emp ms j).set j (bs, q.drop d)) ms (.slice (some ⟨g, o, none⟩) n c6)) ∧ Hid (Two wq (fun b => ¬ L.fp n b) (.slice Av nv cv) (its q))) (fun i _ => nv - (intOf i).toNat)
          case atStart => exact ⟨0, Nat.zero_le _, rfl, by rw [List.drop_zero, set_same (emp_at HM0.out)]; exact S6, HV6⟩
          case round =>
            obtain ⟨wi, rfl⟩ : ∃ wi, wi = wr := ⟨_, rfl⟩
            clear S6 HV6
            obtain ⟨d, hd, rfl, S, HV⟩ := hrel
            by_cases hdl : d < nv
            · obtain ⟨⟨y1, y2⟩, hy⟩ : ∃ y, q[d]? = some y := ⟨_, List.getElem?_eq_getElem (by have := HNQ.out; simp only at this; omega)⟩
              obtain ⟨gi, oi, rfl, _, hgi, ct0, ct1⟩ := HV.out.cells (its_at hy)
              simp only at ct0 ct1
              have hdrop : q.drop d = (y1, y2) :: q.drop (d + 1) := by
                have hdq := lt_of_at hy
                rw [List.drop_eq_getElem_cons hdq]
                rw [List.getElem?_eq_getElem hdq] at hy
                injection hy with hy
                rw [hy]
              have S1 := Lib.hid (S.out.quiet (below_al wi (.cells #[.int .i64 y1, .int .i64 y2] 32)))
              have hat : ((emp ms j).set j (bs, q.drop d))[j]? = some (bs, (y1, y2) :: q.drop (d + 1)) := by rw [← hdrop]; exact set_at (emp_at HM0.out)
              have DO := do9_take L _ j bs y1 y2 (q.drop (d + 1)) _ S1.out.box hat
              rw [set_set'] at DO
              have hl9 : ((emp ms j).set j (bs, q.drop (d + 1))).length = ((emp ms j).set j (bs, q.drop d)).length := by simp
              unfold opV9 doV9 at DO
              have HDO := Lib.hid DO
              have it0 := Lib.hid (Row.new wi 32 #[.int .i64 y1, .int .i64 y2])
              have hgn : gi ≠ wi.heap.size := by omega
              have nq := fun W => neq_it_same y1 y2 W
              have HL9 := Lib.hid hl9
              have HV1 := Lib.hid (HV.out.below (below_al wi (.cells #[.int .i64 y1, .int .i64 y2] 32)))
              have hnf := S.out.far (Nat.le_refl wi.heap.size)
              have HNF := Lib.hid hnf
              clear hy hdrop hat DO hl9 hnf
              go_wp2_with fail
              refine HDO.out.mono ?_
              rintro e w7 ⟨rfl, hr7, ho7⟩
              have ho7' := ho7
              rw [HL9.out, S1.out.len] at ho7'
              have it7 := it0.out.only ho7' HNF.out
              have i0 := it7.cell 0
              have i1 := it7.cell 1
              simp only [List.getElem?_cons_zero, List.getElem?_cons_succ] at i0 i1
              have l7 := it7.lt
              have n7 : wi.heap.size ≠ w7.heap.size := by omega
              have S7 := Lib.hid ((S1.out.step hr7 HL9.out ho7).quiet (below_al w7 (.cells #[.int .i64 y1, .int .i64 y2] 32)))
              have HV7 := Lib.hid ((HV1.out.only ho7' (fun g h hp => hp h)).below (below_al w7 (.cells #[.int .i64 y1, .int .i64 y2] 32)))
              clear it0 it7 hr7 ho7 ho7' S1 HV1 ct0 ct1
              go_wp2_with fail
              go_roundw
              case rel => exact ⟨d + 1, by omega, by go_num, S7, HV7⟩
              case measure => simp [intOf]; omega
            · obtain rfl : d = nv := by omega
              have SF : Hid (PlayB w wi L n (emp ms (j + 1)) ms (.slice (some ⟨g, o, none⟩) n c6)) := Lib.hid (by
                have h := S.out
                rw [List.drop_of_length_le (by have := HNQ.out; simp only at this; omega), emp_next HM0.out] at h
                exact h)
              clear S
              go_wp2_with fail
              go_roundw
              case rel => exact ⟨j + 1, by omega, by go_num, SF⟩
              case measure => simp [intOf]; omega
        · obtain rfl : j = n := by omega
          have HA := Lib.hid (fun W => alive9 W)
          have W1 := Lib.hid (fun W (hb : Below wo.heap.size wo W) => waits_out (S.out.box.below hb) (c := -1) (by rw [S.out.len]; exact hcIm.out))
          have W2 := Lib.hid (fun W (hb : Below wo.heap.size wo W) => waits_out (S.out.box.below hb) (c := (j : Int)) (by rw [S.out.len]; exact hcIs.out))
          go_wp2_with fail
          refine (W1.out _ (Below.refl _ _)).mono ?_
          rintro e w5 ⟨rfl, hb5⟩
          go_wp2_with fail
          refine (W2.out _ hb5).mono ?_
          rintro e w6 ⟨rfl, hb6⟩
          go_wp2_with fail
          refine (HA.out _).mono ?_
          rintro e w7 ⟨rfl, hb7⟩
          have HB := Lib.hid (below_on (below_on (below_on S.out.below hb5) hb6) hb7)
          clear hb5 hb6 hb7
          go_wp2
          go_ret
          exact ⟨rfl, HB.out⟩

set_option maxRecDepth 100000 in
set_option maxHeartbeats 1000000 in
theorem mboxPlays_any (n : Int) (v : Value) (R : List (List Int)) (w : World) (hR : Recs w 4 v R) (hm : R.length ≤ maxLen) :
    Calls Try.prog 3 #[.int .i64 n, v] w fun e w' => e = .returned (.bool true) ∧ Below w.heap.size w w' := by
  unfold maxLen at hm
  have al := fun W => Lib.hid (alive9 W)
  by_cases h1 : 120 < R.length
  · obtain ⟨A, c, rfl, hA⟩ := hR
    clear hA
    have h1' : decide ((120 : Int) < (R.length : Int)) = true := by simp; omega
    have h1'' : (120 : Int) < (R.length : Int) := by omega
    go_enter Try.func3, Try.ntmps3
    go_wp2_with (go_at_call 7; refine (al _).out.mono ?_; rintro e w3 ⟨rfl, hb3⟩)
    go_ret
    exact ⟨rfl, hb3⟩
  · by_cases h3 : n < 1 ∨ 8 < n
    · obtain ⟨A, c, rfl, hA⟩ := hR
      clear hA
      have h1' : ¬ ((120 : Int) < (R.length : Int)) := by omega
      have nw := Lib.hid (new9_no n w h3)
      have IS := fun W => ris9_any n W
      simp only [show isC n = false from by unfold isC; simp; omega] at IS
      have HIS := Lib.hid IS
      clear h3 IS
      go_enter Try.func3, Try.ntmps3
      go_wp2_with (first
        | (go_at_call 8; refine nw.out.mono ?_; rintro e w' ⟨rfl, rfl⟩)
        | (go_at_call 9; refine (HIS.out _).mono ?_; rintro e w' ⟨rfl, rfl⟩)
        | (go_at_call 7; refine (al _).out.mono ?_; rintro e w3 ⟨rfl, hb3⟩))
      go_ret
      exact ⟨rfl, hb3⟩
    · obtain ⟨N, rfl⟩ := Int.eq_ofNat_of_zero_le (show 0 ≤ n by omega)
      exact mboxPlays_main N v R w (by omega) (by omega) hR (by omega)

#print axioms mboxPlays_main
#print axioms mboxPlays_any
end Go.Proofs.Ytfboikefjealfaa
