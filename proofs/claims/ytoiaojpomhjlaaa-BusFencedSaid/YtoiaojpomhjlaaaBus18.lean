/-
  Layer 6's law BusFenced: the walk.
  Conditions: those that each theorem states.
-/
import Derived.Test.YtoiaojpomhjlaaaBus17
namespace Go.Proofs.Ytoiaojpomhjlaaa
open Go.ChangeShapes Go.WideShapes Go.ChangeAt Go.RowKit

set_option maxRecDepth 100000 in
set_option maxHeartbeats 4000000 in
theorem busFenced_main (C n N : Nat) (v : Value) (R : List (List Int)) (a0 : Int) (w : World) (h0 : 1 ≤ C) (h1 : C ≤ 8) (hn0 : 1 ≤ n) (hn1 : n ≤ 200) (hN0 : 1 ≤ N) (hN1 : N ≤ 16) (hR : Recs w 4 v R) (hm : R.length ≤ 80) (hcap : ∀ A n c, v = .slice A n c → n ≤ c) :
    Calls Try.prog 6 #[.int .i64 (C : Int), .int .i64 (n : Int), .int .i64 (N : Int), .agg #[v, .int .i64 a0]] w fun e w' => e = .returned (.bool true) ∧ Below w.heap.size w w' := by
  have hR0 := fun o : Obj => hR.below (below_al w o)
  obtain ⟨A, cc, rfl, hA⟩ := hR
  clear hA
  obtain ⟨m, hm'⟩ : ∃ m, R.length = m := ⟨_, rfl⟩
  have hmc : m ≤ cc := by rw [← hm']; exact hcap A _ cc rfl
  rw [hm'] at hm hR0 ⊢
  have HM := Lib.hid hm'; clear hm' hcap
  obtain ⟨d, hd⟩ : ∃ d, m / 2 = d := ⟨_, rfl⟩
  have hdm : d ≤ m := by omega
  obtain ⟨A1, hs1, hA1⟩ := ops_first A m cc d hdm hmc
  rw [hA1] at hs1
  have hs2 := ops_rest A m cc d hdm
  have HRa := Lib.hid (fun o : Obj => (hR0 o).first hdm)
  have HRb := Lib.hid (fun o : Obj => (hR0 o).rest hdm hmc)
  obtain ⟨A2, hA2⟩ : ∃ A2, (if cc = d then A else A.map (·.add (d * 4))) = A2 := ⟨_, rfl⟩
  obtain ⟨m2, hm2⟩ : ∃ m2, m - d = m2 := ⟨_, rfl⟩
  obtain ⟨c2, hc2⟩ : ∃ c2, cc - d = c2 := ⟨_, rfl⟩
  rw [hA2, hm2, hc2] at HRb hs2
  have hquo : (m : Int).tdiv 2 = (d : Int) := by rw [← hd]; exact (Int.ofNat_tdiv m 2).symm
  have hm2' : m2 ≤ 80 := by omega
  have HL1 := Lib.hid (show (R.take d).length = d by rw [List.length_take, HM.out]; omega)
  have HL2 := Lib.hid (show (R.drop d).length = m2 by rw [List.length_drop, HM.out]; exact hm2)
  clear hR0 hA1 hA2 hm2 hc2 hd
  have NW := Lib.hid (fun W => new6_yes C n N W h0 h1 hn0 (by omega) hN0 hN1)
  have fw := few6_any (n : Int) A m cc
  have hfew : (decide ((m : Int) ≤ 80) && decide ((n : Int) ≤ 200)) = true := by simp; omega
  rw [hfew] at fw
  have FW := Lib.hid fw
  clear fw hfew
  unfold ptr at NW
  go_enter Try.func6, Try.ntmps6
  go_wp2_with fail
  refine (NW.out _).mono ?_
  rintro e w1 ⟨L, rfl, hr1, hn1', hb1⟩
  have hbox := (Row.new w 69 #[.slice A m cc, .int .i64 a0]).below hb1
  have p0 := hbox.cell 0
  simp only [List.getElem?_cons_zero] at p0
  have ST : Hid (OnBus (w.alloc (.cells #[.slice A m cc, .int .i64 a0] 69)) w1 (L.up L.hf) N (List.replicate n 0) (List.replicate C [])) := Lib.hid ⟨hr1, hn1', hb1⟩
  clear hbox hr1 hn1' hb1
  go_wp2_with fail
  refine (FW.out w1).mono ?_
  rintro e w' ⟨rfl, rfl⟩
  go_wp2_with fail
  go_loopw [56] (fun i wr => ∃ (k : Nat) (f : Nat → Option Nat) (l : List Int) (qs : List (List (Int × Int))), k ≤ d ∧ i = .int .i64 k ∧ Hid (OnBus (w.alloc (.cells #[.slice A m cc, .int .i64 a0] 69)) wr (L.up f) N l qs ∧ l.length = n ∧ qs.length = C)) (fun i _ => d - (intOf i).toNat)
  case atStart => exact ⟨0, L.hf, _, _, Nat.zero_le _, rfl, Lib.hid ⟨ST.out, by simp, by simp⟩⟩
  case round =>
    clear p0 ST
    obtain ⟨k, f, l, qs, hk, rfl, hs⟩ := hrel
    obtain ⟨m0, hln⟩ := hs.out
    have M := Lib.hid m0
    have HLN := Lib.hid hln
    have hbel := m0.bel
    clear hs m0 hln
    by_cases hlt : k < d
    · obtain ⟨ad, c', K, c, a, x, hzs, hv', hz, d0, d1, d2, d3⟩ := Recs.four (HRa.out _) hbel (by rw [HL1.out]; exact hlt)
      rw [HL1.out] at hv'
      injection hv' with hv' _ hv2
      subst hv' hv2
      clear hzs hz hbel
      have DO := Lib.hid (do6_all (L.up f) N l qs K c a x _ (M.out.bus.below (below_al wr (.cells #[.int .i64 K, .int .i64 c, .int .i64 a, .int .i64 x] 37))))
      unfold opV ptr at DO
      go_wp2_with fail
      refine DO.out.mono ?_
      rintro e w2 h2
      obtain ⟨f2, rfl, m2', _, _⟩ := (M.out.below (below_al wr (.cells #[.int .i64 K, .int .i64 c, .int .i64 a, .int .i64 x] 37))).step (dQ_len N l qs K c a x) h2
      have M2 := Lib.hid m2'
      clear m2' h2
      go_wp2_with fail
      go_roundw
      case rel => exact ⟨k + 1, f2, _, _, by omega, by go_num, Lib.hid ⟨M2.out, by rw [dL_len]; exact HLN.out.1, by rw [dQ_len]; exact HLN.out.2⟩⟩
      case measure => simp [intOf]; omega
    · obtain rfl : k = d := by omega
      have CL := Lib.hid (clone6_any (L.up f) N l qs wr M.out.bus)
      unfold ptr at CL
      clear hbel
      go_wp2_with fail
      refine CL.out.mono ?_
      rintro e w2 ⟨L2, rfl, hr2, hn2, hb2⟩
      have t2 : TwoBus (w.alloc (.cells #[.slice A m cc, .int .i64 a0] 69)) w2 (L.up f) (L2.up L2.hf) N C l l qs qs := by
        have hC := HLN.out.2
        refine ⟨M.out.below hb2, ⟨hr2, fun b hb => Nat.le_trans M.out.bel.size (hn2 b hb), below_on M.out.bel hb2⟩, fun b h1 h2 => ?_, hC, hC⟩
        rw [← hC] at h1 h2
        have := M.out.bus.fp_lt h1
        have := hn2 b h2
        omega
      have sm := same6_yes (L.up f) (L2.up L2.hf) N l qs w2 t2.one.bus t2.two.bus
      unfold ptr at sm
      have SM := Lib.hid sm
      have T2 := Lib.hid t2
      clear sm t2 hr2 hn2 hb2
      go_wp2_with fail
      refine SM.out.mono ?_
      rintro e w3 ⟨rfl, hb3⟩
      have T3 := Lib.hid (T2.out.below hb3)
      have hbox := (Row.new w 69 #[.slice A m cc, .int .i64 a0]).below T3.out.one.bel
      have p0 := hbox.cell 0
      simp only [List.getElem?_cons_zero] at p0
      clear hb3 hbox
      go_wp2_with fail
      go_loopw [79] (fun i wr => ∃ (k : Nat) (f f2 : Nat → Option Nat) (l : List Int) (qs : List (List (Int × Int))), k ≤ m2 ∧ i = .int .i64 k ∧ Hid (TwoBus (w.alloc (.cells #[.slice A m cc, .int .i64 a0] 69)) wr (L.up f) (L2.up f2) N C l l qs qs ∧ l.length = n)) (fun i _ => m2 - (intOf i).toNat)
      case atStart => exact ⟨0, f, L2.hf, l, qs, Nat.zero_le _, rfl, Lib.hid ⟨T3.out, HLN.out.1⟩⟩
      case round =>
        clear p0 T3 T2 M HLN SM CL hk hlt f l qs
        obtain ⟨k, f, f2, l, qs, hk, rfl, hs⟩ := hrel
        obtain ⟨m0, hln⟩ := hs.out
        have T := Lib.hid m0
        have HLN := Lib.hid hln
        have hbel := m0.one.bel
        clear hs m0 hln
        by_cases hlt : k < m2
        · obtain ⟨ad, c', K, c, a, x, hzs, hv', hz, d0, d1, d2, d3⟩ := Recs.four (HRb.out _) hbel (by rw [HL2.out]; exact hlt)
          rw [HL2.out] at hv'
          injection hv' with hv' _ hv2
          subst hv' hv2
          clear hzs hz hbel
          have T1 := Lib.hid (T.out.below (below_al wr (.cells #[.int .i64 K, .int .i64 c, .int .i64 a, .int .i64 x] 37)))
          have DO := do6_all (L.up f) N l qs K c a x _ T1.out.one.bus
          obtain ⟨zn, hzn⟩ : ∃ z, dN l qs K c a x = z := ⟨_, rfl⟩
          obtain ⟨ze, hze⟩ : ∃ z, dE l qs K c a x = z := ⟨_, rfl⟩
          rw [hzn, hze] at DO
          have DOO := Lib.hid DO
          have HZ := Lib.hid (And.intro hzn hze)
          clear DO hzn hze
          unfold opV ptr at DOO
          have e1 : (zn != zn) = false := by simp
          have e2 : (ze != ze) = false := by simp
          go_wp2_with fail
          refine DOO.out.mono ?_
          rintro e w2 h2
          obtain ⟨f3, rfl, t2, ho2⟩ := T1.out.left (dQ_len N l qs K c a x) h2
          have hop := (Row.new wr 37 #[.int .i64 K, .int .i64 c, .int .i64 a, .int .i64 x]).only ho2 (fun h => by rw [← T.out.len] at h; have := T.out.one.bus.fp_lt h; omega)
          have s0 := hop.cell 0
          have s1 := hop.cell 1
          have s2 := hop.cell 2
          have s3 := hop.cell 3
          simp only [List.getElem?_cons_zero, List.getElem?_cons_succ] at s0 s1 s2 s3
          have T2 := Lib.hid t2
          have DC := do6_all (L2.up f2) N l qs K c a x w2 t2.two.bus
          rw [HZ.out.1, HZ.out.2] at DC
          unfold opV ptr at DC
          have DCC := Lib.hid DC
          clear h2 t2 ho2 hop DC
          go_wp2_with fail
          refine DCC.out.mono ?_
          rintro e w3 h3
          obtain ⟨f4, rfl, t3, _⟩ := T2.out.swap.left (dQ_len N l qs K c a x) h3
          have T3 := Lib.hid t3.swap
          clear h3 t3
          go_wp2_with fail
          go_roundw
          case rel => exact ⟨k + 1, f3, f4, _, _, by omega, by go_num, Lib.hid ⟨T3.out, by rw [dL_len]; exact HLN.out⟩⟩
          case measure => simp [intOf]; omega
        · obtain rfl : k = m2 := by omega
          clear hbel
          have sm := same6_yes (L.up f) (L2.up f2) N l qs wr T.out.one.bus T.out.two.bus
          unfold ptr at sm
          have SM := Lib.hid sm
          clear sm
          go_wp2_with fail
          refine SM.out.mono ?_
          rintro e w2 ⟨rfl, hb2⟩
          have T2 := Lib.hid (T.out.below hb2)
          have sm2 := same6_yes (L2.up f2) (L.up f) N l qs w2 T2.out.two.bus T2.out.one.bus
          unfold ptr at sm2
          have SM2 := Lib.hid sm2
          clear sm2 hb2
          go_wp2_with fail
          refine SM2.out.mono ?_
          rintro e w3 ⟨rfl, hb3⟩
          have M3 := Lib.hid (T2.out.below hb3).one
          have HC := Lib.hid T.out.len
          clear hb3
          go_wp2_with fail
          go_loopw [115] (fun i wr => ∃ (k : Nat) (f : Nat → Option Nat) (l : List Int) (qs : List (List (Int × Int))), k ≤ C ∧ i = .int .i64 k ∧ Hid (OnBus (w.alloc (.cells #[.slice A m cc, .int .i64 a0] 69)) wr (L.up f) N l qs ∧ l.length = n ∧ qs.length = C ∧ ∀ i, i < k → qs[i]? = some [])) (fun i _ => C - (intOf i).toNat)
          case atStart => exact ⟨0, f, l, qs, Nat.zero_le _, rfl, Lib.hid ⟨M3.out, HLN.out, HC.out, fun i hi => by omega⟩⟩
          case round =>
            clear M3 T2 T SM SM2 HLN HC hk hlt f f2 l qs
            obtain ⟨k, f, l, qs, hk, rfl, hs⟩ := hrel
            obtain ⟨m0, hln⟩ := hs.out
            have M := Lib.hid m0
            have HLN := Lib.hid hln
            clear hs m0 hln
            by_cases hlt : k < C
            · obtain ⟨q, hq⟩ : ∃ q, qs[k]? = some q := ⟨_, List.getElem?_eq_getElem (by rw [HLN.out.2.1]; exact hlt)⟩
              have fn := fence6_ok (L.up f) N l qs k q wr M.out.bus hq
              unfold ptr at fn
              have FN := Lib.hid fn
              clear fn hq
              go_wp2_with fail
              refine FN.out.mono ?_
              rintro e w2 h2
              obtain ⟨f2, rfl, m2', _, _⟩ := M.out.step List.length_set h2
              have M2 := Lib.hid m2'
              clear m2' h2
              go_wp2_with fail
              go_roundw
              case rel =>
                refine ⟨k + 1, f2, _, _, by omega, by go_num, Lib.hid ⟨M2.out, by rw [drs_len]; exact HLN.out.1, by rw [List.length_set]; exact HLN.out.2.1, fun i hi => ?_⟩⟩
                by_cases e : k = i
                · subst e
                  exact set_at _ (by rw [HLN.out.2.1]; exact hlt)
                · rw [List.getElem?_set_ne e]
                  exact HLN.out.2.2 i (by omega)
              case measure => simp [intOf]; omega
            · obtain rfl : k = C := by omega
              go_wp2_with fail
              refine (ram6_any (L.up f) N l qs wr M.out.bus).mono ?_
              rintro e w4 ⟨g4, h4, rfl, r4, hg4, hh4, hb4⟩
              go_wp2_with fail
              refine (words_any g4 h4 l w4 r4).mono ?_
              rintro e w5 ⟨v5, rfl, hv5, hb5⟩
              have M5 := Lib.hid ((M.out.below hb4).below hb5)
              obtain ⟨A5, cc5, rfl, hA5⟩ := hv5
              rw [ints_len, HLN.out.1] at hA5 ⊢
              obtain ⟨g5, o5, rfl, _, hg5, hc5⟩ := hA5 (by omega)
              have HC5 := Lib.hid hc5
              clear r4 hg4 hh4 hb4 hb5 hA5 hc5
              go_wp2_with fail
              go_loopw [126] (fun i wr' => ∃ k' : Nat, k' ≤ k ∧ i = .int .i64 k' ∧ Hid (Below w5.heap.size w5 wr')) (fun i _ => k - (intOf i).toNat)
              case atStart => exact ⟨0, Nat.zero_le _, rfl, Lib.hid (Below.refl _ _)⟩
              case round =>
                obtain ⟨k', hk', rfl, HB⟩ := hrel
                have hbox := (Row.new w 69 #[.slice A m cc, .int .i64 a0]).below (below_on M5.out.bel HB.out)
                have p1 := hbox.cell 1
                simp only [List.getElem?_cons_zero, List.getElem?_cons_succ] at p1
                clear hbox
                by_cases hlt' : k' < k
                · have ld := load6_ok (L.up f) N l qs k' [] a0 wr (M5.out.bus.below HB.out) (HLN.out.2.2 k' hlt')
                  by_cases hin : 0 ≤ a0 ∧ a0 < (n : Int)
                  · obtain ⟨α, rfl⟩ := Int.eq_ofNat_of_zero_le hin.1
                    have hα : α < n := by omega
                    have hr0 : runE l.length α 1 = 0 := runE_one (by omega) (by rw [HLN.out.1]; exact hin.2)
                    have hv0 : ldV l [] α = l.getD α 0 := (loadV_in hr0)
                    obtain ⟨y, hy⟩ : ∃ y, l[α]? = some y := ⟨_, List.getElem?_eq_getElem (by rw [HLN.out.1]; exact hα)⟩
                    have hv1 : l.getD α 0 = y := by rw [List.getD_eq_getElem?_getD, hy]; rfl
                    rw [hr0, hv0, hv1] at ld
                    unfold ptr at ld
                    have LD := Lib.hid ld
                    have cY : w5.cell? ⟨g5, o5 + α, none⟩ = some (.int .i64 y) := HC5.out α _ (ints_some hy)
                    have CY := Lib.hid cY
                    have hyy : (y != y) = false := by simp
                    clear ld hr0 hv0 hv1 hy hin cY
                    go_wp2_with fail
                    refine LD.out.mono ?_
                    rintro e w6 ⟨rfl, hb6⟩
                    have q1 : w6.cell? ⟨w.heap.size, 1, none⟩ = some (.int .i64 (α : Int)) := ((Row.new w 69 #[.slice A m cc, .int .i64 (α : Int)]).below (below_on M5.out.bel (below_on HB.out hb6))).cell 1
                    have q2 : w6.cell? ⟨g5, o5 + α, none⟩ = some (.int .i64 y) := ((below_on HB.out hb6).cell (p := ⟨g5, o5 + α, none⟩) hg5).trans CY.out
                    have HB6 := Lib.hid (below_on HB.out hb6)
                    clear hb6
                    go_wp2_with fail
                    go_roundw
                    case rel => exact ⟨k' + 1, by omega, by go_num, HB6⟩
                    case measure => simp [intOf]; omega
                  · have hr0 : runE l.length a0 1 = 4 := runE_out (by rw [HLN.out.1]; exact hin)
                    obtain ⟨y, hy⟩ : ∃ y, ldV l [] a0 = y := ⟨_, rfl⟩
                    rw [hr0, hy] at ld
                    unfold ptr at ld
                    have LD := Lib.hid ld
                    have hcase : decide (0 ≤ a0) = false ∨ (decide (0 ≤ a0) = true ∧ decide (a0 < (n : Int)) = false) := by
                      by_cases h : 0 ≤ a0
                      · right
                        exact ⟨by simpa using h, decide_eq_false (fun h2 => hin ⟨h, h2⟩)⟩
                      · left; simpa using h
                    clear ld hr0 hy hin
                    rcases hcase with g1 | ⟨g1, g2⟩
                    all_goals
                      go_wp2_with fail
                      refine LD.out.mono ?_
                      rintro e w6 ⟨rfl, hb6⟩
                      have q1 : w6.cell? ⟨w.heap.size, 1, none⟩ = some (.int .i64 a0) := ((Row.new w 69 #[.slice A m cc, .int .i64 a0]).below (below_on M5.out.bel (below_on HB.out hb6))).cell 1
                      have HB6 := Lib.hid (below_on HB.out hb6)
                      clear hb6
                      go_wp2_with fail
                      go_roundw
                      case rel => exact ⟨k' + 1, by omega, by go_num, HB6⟩
                      case measure => simp [intOf]; omega
                · obtain rfl : k' = k := by omega
                  go_wp2_with fail
                  refine (alive6 _).mono ?_
                  rintro e w7 ⟨rfl, hb7⟩
                  go_wp2
                  go_ret
                  exact ⟨rfl, below_on (below_on (below_al _ _) (below_on M5.out.bel HB.out)) hb7⟩

set_option maxRecDepth 100000 in
set_option maxHeartbeats 1000000 in
theorem busFenced_any (c n b : Int) (v : Value) (R : List (List Int)) (a0 : Int) (w : World) (hR : Recs w 4 v R) (hcap : ∀ A n c, v = .slice A n c → n ≤ c) :
    Calls Try.prog 6 #[.int .i64 c, .int .i64 n, .int .i64 b, .agg #[v, .int .i64 a0]] w fun e w' => e = .returned (.bool true) ∧ Below w.heap.size w w' := by
  by_cases h : 1 ≤ c ∧ c ≤ 8 ∧ 1 ≤ n ∧ n ≤ 65536 ∧ 1 ≤ b ∧ b ≤ 16
  · obtain ⟨h1, h2, h3, h4, h5, h6⟩ := h
    obtain ⟨C, rfl⟩ := Int.eq_ofNat_of_zero_le (show 0 ≤ c by omega)
    obtain ⟨m, rfl⟩ := Int.eq_ofNat_of_zero_le (show 0 ≤ n by omega)
    obtain ⟨N, rfl⟩ := Int.eq_ofNat_of_zero_le (show 0 ≤ b by omega)
    by_cases hf : R.length ≤ 80 ∧ m ≤ 200
    · exact busFenced_main C m N v R a0 w (by omega) (by omega) (by omega) hf.2 (by omega) (by omega) hR hf.1 hcap
    · obtain ⟨A, cc, rfl, hA⟩ := hR
      clear hA hcap
      have NW := Lib.hid (fun W => new6_yes C m N W (by omega) (by omega) (by omega) (by omega) (by omega) (by omega))
      have fw := few6_any (m : Int) A R.length cc
      have hfew : (decide ((R.length : Int) ≤ 80) && decide ((m : Int) ≤ 200)) = false := by
        rw [Bool.and_eq_false_iff]
        simp only [decide_eq_false_iff_not]
        omega
      rw [hfew] at fw
      have FW := Lib.hid fw
      clear fw hfew
      unfold ptr at NW
      go_enter Try.func6, Try.ntmps6
      go_wp2_with fail
      refine (NW.out _).mono ?_
      rintro e w1 ⟨L, rfl, hr1, hn1', hb1⟩
      have hbox := (Row.new w 69 #[.slice A R.length cc, .int .i64 a0]).below hb1
      have p0 := hbox.cell 0
      simp only [List.getElem?_cons_zero] at p0
      go_wp2_with fail
      refine (FW.out w1).mono ?_
      rintro e w' ⟨rfl, rfl⟩
      go_wp2_with fail
      refine (alive6 _).mono ?_
      rintro e w6 ⟨rfl, hb6⟩
      go_wp2
      go_ret
      exact ⟨rfl, below_on (below_on (below_al _ _) hb1) hb6⟩
  · have NW := Lib.hid (fun W => new6_no c n b W h)
    clear h hcap
    go_enter Try.func6, Try.ntmps6
    go_wp2_with fail
    refine (NW.out _).mono ?_
    rintro e w1 ⟨rfl, hb1⟩
    go_wp2_with fail
    refine (alive6 _).mono ?_
    rintro e w6 ⟨rfl, hb6⟩
    go_wp2
    go_ret
    exact ⟨rfl, below_on (below_on (below_al _ _) hb1) hb6⟩

#print axioms busFenced_any
end Go.Proofs.Ytoiaojpomhjlaaa
