/-
  Layer 6's law BusOwn: the walk.
  Conditions: those that each theorem states.
-/
import Derived.Test.YtoiaojpomhjlaaaBus13
import Derived.Test.YtoiaojpomhjlaaaBus14
import Derived.Test.YtoiaojpomhjlaaaBus15
import Derived.Test.YtoiaojpomhjlaaaArgs
namespace Go.Proofs.Ytoiaojpomhjlaaa
open Go.ChangeShapes Go.WideShapes Go.ChangeAt Go.RowKit

/-- What a core loads of what it stored last. -/
theorem own_load (N : Nat) (l : List Int) (q : List (Int × Int)) (a x : Int) (h : fillE l.length a 1 x = 0) : ldV (stoL N l q a x) (stoQ N l q a x) a = x := by
  unfold stoQ
  rw [if_pos h]
  unfold ldV
  rw [fnd_snoc, if_pos rfl]

theorem own_mem (N : Nat) (l : List Int) (q : List (Int × Int)) (a x : Int) (h : fillE l.length a 1 x = 0) : (drs (stoL N l q a x) (stoQ N l q a x))[a.toNat]? = some x := by
  rw [drs_sto, if_pos h, List.getElem?_set_self]
  have := runE_ok (fillE_ok h).1
  rw [drs_len]
  omega

/-- Two buses: what a call on the one leaves of the other. -/
theorem BusAt.other {w w' : World} {L L2 : Lay} {N : Nat} {l : List Int} {qs : List (List (Int × Int))} {n B : Nat} (r : BusAt w L2 N l qs) (ho : Only (L.fp n) w w') (h1 : ∀ b, L.fp n b → b < B) (h2 : ∀ b, L2.fp qs.length b → B ≤ b) : BusAt w' L2 N l qs :=
  r.only ho (fun b hb h => by have := h1 b h; have := h2 b hb; omega)

set_option maxRecDepth 100000 in
set_option maxHeartbeats 4000000 in
theorem busOwn_main (C n N : Nat) (v : Value) (R : List (List Int)) (K0 c0 a0 x0 : Int) (w : World) (h0 : 1 ≤ C) (h1 : C ≤ 8) (hn0 : 1 ≤ n) (hn1 : n ≤ 200) (hN0 : 1 ≤ N) (hN1 : N ≤ 16) (hR : Recs w 4 v R) (hm : R.length ≤ 80) :
    Calls Try.prog 4 #[.int .i64 (C : Int), .int .i64 (n : Int), .int .i64 (N : Int), .agg #[v, .int .i64 K0, .int .i64 c0, .int .i64 a0, .int .i64 x0]] w fun e w' => e = .returned (.bool true) ∧ Below w.heap.size w w' := by
  have HR0 := Lib.hid (fun o : Obj => hR.below (below_al w o))
  obtain ⟨A, cc, rfl, hA⟩ := hR
  clear hA
  obtain ⟨m, hm'⟩ : ∃ m, R.length = m := ⟨_, rfl⟩
  rw [hm'] at hm HR0 ⊢
  have HM := Lib.hid hm'; clear hm'
  have NW := Lib.hid (fun W => new6_yes C n N W h0 h1 hn0 (by omega) hN0 hN1)
  have fw := few6_any (n : Int) A m cc
  have hfew : (decide ((m : Int) ≤ 80) && decide ((n : Int) ≤ 200)) = true := by simp; omega
  rw [hfew] at fw
  have FW := Lib.hid fw
  clear fw hfew
  go_enter Try.func4, Try.ntmps4
  go_wp2_with fail
  refine (NW.out _).mono ?_
  rintro e w1 ⟨L, rfl, hr1, hn1', hb1⟩
  have hbox := (Row.new w 45 #[.slice A m cc, .int .i64 K0, .int .i64 c0, .int .i64 a0, .int .i64 x0]).below hb1
  have p0 := hbox.cell 0
  simp only [List.getElem?_cons_zero] at p0
  have ST : Hid (OnBus (w.alloc (.cells #[.slice A m cc, .int .i64 K0, .int .i64 c0, .int .i64 a0, .int .i64 x0] 45)) w1 (L.up L.hf) N (List.replicate n 0) (List.replicate C [])) := Lib.hid ⟨hr1, hn1', hb1⟩
  clear hbox hr1 hn1' hb1
  unfold ptr
  go_wp2_with fail
  refine (FW.out w1).mono ?_
  rintro e w' ⟨rfl, rfl⟩
  go_wp2_with fail
  go_loopw [46] (fun i wr => ∃ (k : Nat) (f : Nat → Option Nat) (l : List Int) (qs : List (List (Int × Int))), k ≤ m ∧ i = .int .i64 k ∧ Hid (OnBus (w.alloc (.cells #[.slice A m cc, .int .i64 K0, .int .i64 c0, .int .i64 a0, .int .i64 x0] 45)) wr (L.up f) N l qs ∧ l.length = n ∧ qs.length = C)) (fun i _ => m - (intOf i).toNat)
  case atStart => exact ⟨0, L.hf, _, _, Nat.zero_le _, rfl, Lib.hid ⟨ST.out, by simp, by simp⟩⟩
  case round =>
    clear p0 ST
    obtain ⟨k, f, l, qs, hk, rfl, hs⟩ := hrel
    obtain ⟨m0, hln⟩ := hs.out
    have M := Lib.hid m0
    have HLN := Lib.hid hln
    have hbel := m0.bel
    clear hs m0 hln
    by_cases hlt : k < m
    · obtain ⟨ad, c', K, c, a, x, hzs, hv', hz, d0, d1, d2, d3⟩ := Recs.four (HR0.out _) hbel (by rw [HM.out]; exact hlt)
      rw [HM.out] at hv'
      injection hv' with hv' _ hv2
      subst hv' hv2
      clear hzs hz hbel
      have CL := Lib.hid (clone6_any (L.up f) N l qs _ (M.out.bus.below (below_al wr (.cells #[.int .i64 K, .int .i64 c, .int .i64 a, .int .i64 x] 37))))
      unfold ptr at CL
      by_cases hE : dE l qs K c a x = 0
      · by_cases hK : K = 1
        · subst hK
          have HST := Lib.hid (d_still N l qs 1 c a x (.inr rfl))
          have eE := hE
          clear hE
          go_wp2_with fail
          refine CL.out.mono ?_
          rintro e w2 ⟨L2, rfl, hr2, hn2, hb2⟩
          have D := do6_all (L.up f) N l qs 1 c a x w2 (M.out.bus.below (below_on (below_al _ _) hb2))
          rw [eE] at D
          have HD := Lib.hid D
          clear D eE
          have hop := (Row.new wr 37 #[.int .i64 1, .int .i64 c, .int .i64 a, .int .i64 x]).below hb2
          have p0 := hop.cell 0
          have p1 := hop.cell 1
          have p2 := hop.cell 2
          have p3 := hop.cell 3
          simp only [List.getElem?_cons_zero, List.getElem?_cons_succ] at p0 p1 p2 p3
          have HOP := Lib.hid hop
          have HR2 := Lib.hid hr2
          have HN2 := Lib.hid hn2
          have MM := Lib.hid (M.out.below (below_on (below_al wr (.cells #[.int .i64 1, .int .i64 c, .int .i64 a, .int .i64 x] 37)) hb2))
          clear hop hr2 hn2 hb2
          unfold opV ptr at HD
          go_wp2_with fail
          refine HD.out.mono ?_
          rintro e w3 h3
          obtain ⟨f3, rfl, m3, ho3, _⟩ := MM.out.step (dQ_len N l qs 1 c a x) h3
          have k0 : w3.cell? ⟨wr.heap.size, 0, none⟩ = some (.int .i64 1) := (HOP.out.only ho3 (fun h => by have := M.out.bus.fp_lt h; omega)).cell 0
          have M3 := Lib.hid m3
          have HO3 := Lib.hid ho3
          clear m3 ho3 h3
          obtain ⟨es1, es2⟩ := HST.out
          rw [es1, es2] at M3
          clear es1 es2
          have sm := same6_yes (L.up f3) L2 N l qs w3 M3.out.bus (HR2.out.other HO3.out M.out.bus.lts (fun b hb => by have := HN2.out b hb; simp only [size_al] at this; omega))
          unfold ptr at sm
          have SM := Lib.hid sm
          clear sm
          go_wp2_with fail
          refine SM.out.mono ?_
          rintro e w4 ⟨rfl, hb4⟩
          have M4 := Lib.hid (M3.out.below hb4)
          clear hb4
          go_wp2_with fail
          go_roundw
          case rel => exact ⟨k + 1, f3, l, qs, by omega, by go_num, Lib.hid ⟨M4.out, HLN.out.1, HLN.out.2⟩⟩
          case measure => simp [intOf]; omega
        · have bK : (K == 1) = false := by simpa using hK
          have eE := hE
          clear hE hK
          go_wp2_with fail
          refine CL.out.mono ?_
          rintro e w2 ⟨L2, rfl, hr2, hn2, hb2⟩
          have D := do6_all (L.up f) N l qs K c a x w2 (M.out.bus.below (below_on (below_al _ _) hb2))
          rw [eE] at D
          have HD := Lib.hid D
          clear D eE
          have hop := (Row.new wr 37 #[.int .i64 K, .int .i64 c, .int .i64 a, .int .i64 x]).below hb2
          have p0 := hop.cell 0
          have p1 := hop.cell 1
          have p2 := hop.cell 2
          have p3 := hop.cell 3
          simp only [List.getElem?_cons_zero, List.getElem?_cons_succ] at p0 p1 p2 p3
          have HOP := Lib.hid hop
          have HR2 := Lib.hid hr2
          have HN2 := Lib.hid hn2
          have MM := Lib.hid (M.out.below (below_on (below_al wr (.cells #[.int .i64 K, .int .i64 c, .int .i64 a, .int .i64 x] 37)) hb2))
          clear hop hr2 hn2 hb2
          unfold opV ptr at HD
          go_wp2_with fail
          refine HD.out.mono ?_
          rintro e w3 h3
          obtain ⟨f3, rfl, m3, ho3, _⟩ := MM.out.step (dQ_len N l qs K c a x) h3
          have k0 : w3.cell? ⟨wr.heap.size, 0, none⟩ = some (.int .i64 K) := (HOP.out.only ho3 (fun h => by have := M.out.bus.fp_lt h; omega)).cell 0
          have M3 := Lib.hid m3
          have HO3 := Lib.hid ho3
          clear m3 ho3 h3
          go_wp2_with fail
          go_roundw
          case rel => exact ⟨k + 1, f3, _, _, by omega, by go_num, Lib.hid ⟨M3.out, by rw [dL_len]; exact HLN.out.1, by rw [dQ_len]; exact HLN.out.2⟩⟩
          case measure => simp [intOf]; omega
      · have HST := Lib.hid (d_still N l qs K c a x (.inl hE))
        obtain ⟨z, eE⟩ : ∃ z, dE l qs K c a x = z := ⟨_, rfl⟩
        have hz : (z != 0) = true := by rw [eE] at hE; simpa using hE
        clear hE
        go_wp2_with fail
        refine CL.out.mono ?_
        rintro e w2 ⟨L2, rfl, hr2, hn2, hb2⟩
        have D := do6_all (L.up f) N l qs K c a x w2 (M.out.bus.below (below_on (below_al _ _) hb2))
        rw [eE] at D
        have HD := Lib.hid D
        clear D eE
        have hop := (Row.new wr 37 #[.int .i64 K, .int .i64 c, .int .i64 a, .int .i64 x]).below hb2
        have p0 := hop.cell 0
        have p1 := hop.cell 1
        have p2 := hop.cell 2
        have p3 := hop.cell 3
        simp only [List.getElem?_cons_zero, List.getElem?_cons_succ] at p0 p1 p2 p3
        have HOP := Lib.hid hop
        have HR2 := Lib.hid hr2
        have HN2 := Lib.hid hn2
        have MM := Lib.hid (M.out.below (below_on (below_al wr (.cells #[.int .i64 K, .int .i64 c, .int .i64 a, .int .i64 x] 37)) hb2))
        clear hop hr2 hn2 hb2
        unfold opV ptr at HD
        go_wp2_with fail
        refine HD.out.mono ?_
        rintro e w3 h3
        obtain ⟨f3, rfl, m3, ho3, _⟩ := MM.out.step (dQ_len N l qs K c a x) h3
        have k0 : w3.cell? ⟨wr.heap.size, 0, none⟩ = some (.int .i64 K) := (HOP.out.only ho3 (fun h => by have := M.out.bus.fp_lt h; omega)).cell 0
        have M3 := Lib.hid m3
        have HO3 := Lib.hid ho3
        clear m3 ho3 h3
        obtain ⟨es1, es2⟩ := HST.out
        rw [es1, es2] at M3
        clear es1 es2
        have sm := same6_yes (L.up f3) L2 N l qs w3 M3.out.bus (HR2.out.other HO3.out M.out.bus.lts (fun b hb => by have := HN2.out b hb; simp only [size_al] at this; omega))
        unfold ptr at sm
        have SM := Lib.hid sm
        clear sm
        go_wp2_with fail
        refine SM.out.mono ?_
        rintro e w4 ⟨rfl, hb4⟩
        have M4 := Lib.hid (M3.out.below hb4)
        clear hb4
        go_wp2_with fail
        go_roundw
        case rel => exact ⟨k + 1, f3, l, qs, by omega, by go_num, Lib.hid ⟨M4.out, HLN.out.1, HLN.out.2⟩⟩
        case measure => simp [intOf]; omega
    · obtain rfl : k = m := by omega
      have hbox := (Row.new w 45 #[.slice A k cc, .int .i64 K0, .int .i64 c0, .int .i64 a0, .int .i64 x0]).below hbel
      have p1 := hbox.cell 1
      have p2 := hbox.cell 2
      have p3 := hbox.cell 3
      have p4 := hbox.cell 4
      simp only [List.getElem?_cons_zero, List.getElem?_cons_succ] at p1 p2 p3 p4
      clear hbox hbel
      have SA := store6_all (L.up f) N l qs c0 a0 x0 _ (M.out.bus.below (below_al wr (.cells #[.int .i64 K0, .int .i64 c0, .int .i64 a0, .int .i64 x0] 37)))
      have M1 := Lib.hid (M.out.below (below_al wr (.cells #[.int .i64 K0, .int .i64 c0, .int .i64 a0, .int .i64 x0] 37)))
      by_cases hE : dE l qs 0 c0 a0 x0 = 0
      · have hin : cIn qs c0 := by
          by_cases h : cIn qs c0
          · exact h
          · unfold dE at hE
            rw [if_neg h] at hE
            exact absurd hE (by decide)
        have hE2 : fillE l.length a0 1 x0 = 0 := by
          unfold dE at hE
          rw [if_pos hin] at hE
          exact hE
        obtain ⟨i, rfl⟩ := Int.eq_ofNat_of_zero_le hin.1
        obtain ⟨α, rfl⟩ := Int.eq_ofNat_of_zero_le (runE_ok (fillE_ok hE2).1).2.1
        have hq := qAt_some hin
        have eL : dL N l qs 0 i α x0 = stoL N l (qAt qs i) α x0 := by unfold dL; rw [if_pos hin]; rfl
        have eQ : dQ N l qs 0 i α x0 = qs.set i (stoQ N l (qAt qs i) α x0) := by unfold dQ; rw [if_pos hin]; rfl
        have hi : i < qs.length := lt_of_at hq
        have hldV := own_load N l (qAt qs i) α x0 hE2
        have hmem := own_mem N l (qAt qs i) α x0 hE2
        have hrun : runE (stoL N l (qAt qs i) α x0).length α 1 = 0 := by rw [stoL_len]; exact (fillE_ok hE2).1
        have hq1 : (qs.set i (stoQ N l (qAt qs i) α x0))[i]? = some (stoQ N l (qAt qs i) α x0) := set_at _ hi
        rw [hE, eL, eQ] at SA
        obtain ⟨l1, hl1⟩ : ∃ l1, stoL N l (qAt qs i) α x0 = l1 := ⟨_, rfl⟩
        obtain ⟨q1, hq1'⟩ : ∃ q1, stoQ N l (qAt qs i) α x0 = q1 := ⟨_, rfl⟩
        have hl1n : l1.length = n := by rw [← hl1, stoL_len]; exact HLN.out.1
        rw [hl1, hq1'] at SA
        rw [hl1, hq1'] at hldV hmem
        rw [hl1] at hrun
        rw [hq1'] at hq1
        have SAA := Lib.hid SA
        have HV := Lib.hid hldV
        have HMem := Lib.hid hmem
        have HRun := Lib.hid hrun
        have HQ1 := Lib.hid hq1
        have hαn : α < n := by have := (runE_ok hrun).2.2; omega
        clear SA hE hE2 hin hq eL eQ hldV hmem hrun hq1 hl1 hq1'
        unfold ptr at SAA
        go_wp2_with fail
        refine SAA.out.mono ?_
        rintro e w2 h2
        obtain ⟨f2, rfl, m2, ho2, hx2⟩ := M1.out.step List.length_set h2
        have hop := (Row.new wr 37 #[.int .i64 K0, .int .i64 (i : Int), .int .i64 (α : Int), .int .i64 x0]).only ho2 (fun h => by have := M.out.bus.fp_lt h; omega)
        have s1 := hop.cell 1
        have s2 := hop.cell 2
        have s3 := hop.cell 3
        simp only [List.getElem?_cons_zero, List.getElem?_cons_succ] at s1 s2 s3
        have HOP := Lib.hid hop
        have M2 := Lib.hid m2
        have HX2 := Lib.hid (fun h => (hx2 wr.heap.size h).elim (fun h => by have := M.out.bus.fp_lt h; omega) (fun h => by simp only [size_al] at h; omega) : ¬ (L.up f2).fp qs.length wr.heap.size)
        clear hx2
        have ld := load6_ok (L.up f2) N l1 (qs.set i q1) i q1 α w2 m2.bus HQ1.out
        rw [HV.out, HRun.out] at ld
        unfold ptr at ld
        have LD := Lib.hid ld
        clear h2 m2 ho2 hop ld
        go_wp2_with fail
        refine LD.out.mono ?_
        rintro e w3 ⟨rfl, hb3⟩
        have m3 := M2.out.below hb3
        have hop3 := HOP.out.below hb3
        have s1 := hop3.cell 1
        have s2 := hop3.cell 2
        have s3 := hop3.cell 3
        simp only [List.getElem?_cons_zero, List.getElem?_cons_succ] at s1 s2 s3
        have fn := fence6_ok (L.up f2) N l1 (qs.set i q1) i q1 w3 m3.bus HQ1.out
        rw [List.set_set] at fn
        unfold ptr at fn
        have FN := Lib.hid fn
        have M3 := Lib.hid m3
        have HOP3 := Lib.hid hop3
        clear m3 hop3 hb3 fn
        go_wp2_with fail
        refine FN.out.mono ?_
        rintro e w4 h4
        obtain ⟨f4, rfl, m4, ho4, _⟩ := M3.out.step (by rw [List.length_set, List.length_set]) h4
        have hnop : ¬ (L.up f2).fp (qs.set i q1).length wr.heap.size := fun h => by
          rw [List.length_set] at h
          exact HX2.out h
        have hop4 := HOP3.out.only ho4 hnop
        have s1 := hop4.cell 1
        have s2 := hop4.cell 2
        have s3 := hop4.cell 3
        simp only [List.getElem?_cons_zero, List.getElem?_cons_succ] at s1 s2 s3
        have HOP4 := Lib.hid hop4
        have M4 := Lib.hid m4
        have hlen2 : (drs l1 q1).length = n := by rw [drs_len]; exact hl1n
        obtain ⟨l2, hl2⟩ : ∃ l2, drs l1 q1 = l2 := ⟨_, rfl⟩
        rw [hl2] at M4 hlen2
        have hmem2 := HMem.out
        rw [hl2] at hmem2
        have hrun2 : runE l2.length α 1 = 0 := runE_one (by omega) (by rw [hlen2]; omega)
        have hld2 : ldV l2 [] α = x0 := by
          show loadV l2 α = x0
          rw [loadV_in hrun2, List.getD_eq_getElem?_getD, hmem2]
          rfl
        have hqs2 : (qs.set i [])[i]? = some ([] : List (Int × Int)) := set_at _ hi
        have ld2 := load6_ok (L.up f4) N l2 (qs.set i []) i [] α w4 M4.out.bus hqs2
        rw [hld2, hrun2] at ld2
        unfold ptr at ld2
        have LD2 := Lib.hid ld2
        have HMem2 := Lib.hid hmem2
        have HLen2 := Lib.hid hlen2
        have HQ2 := Lib.hid hqs2
        clear h4 m4 ho4 hnop hop4 ld2 hmem2 hrun2 hld2 hlen2 hqs2 hl2
        go_wp2_with fail
        refine LD2.out.mono ?_
        rintro e w5 ⟨rfl, hb5⟩
        have M5 := Lib.hid (M4.out.below hb5)
        have HOP5 := Lib.hid (HOP4.out.below hb5)
        clear hb5
        go_wp2_with fail
        refine (ram6_any (L.up f4) N l2 (qs.set i []) w5 M5.out.bus).mono ?_
        rintro e w6 ⟨g6, h6, rfl, r6, hg6, hh6, hb6⟩
        go_wp2_with fail
        refine (words_any g6 h6 l2 w6 r6).mono ?_
        rintro e w7 ⟨v7, rfl, hv7, hb7⟩
        have M7 := Lib.hid ((M5.out.below hb6).below hb7)
        have hop7 := (HOP5.out.below hb6).below hb7
        obtain ⟨A7, cc7, rfl, hA7⟩ := hv7
        rw [ints_len, HLen2.out] at hA7 ⊢
        obtain ⟨g7, o7, rfl, _, hg7, hc7⟩ := hA7 (by omega)
        have hcell7 : w7.cell? ⟨g7, o7 + α, none⟩ = some (.int .i64 x0) := hc7 α _ (ints_some HMem2.out)
        have hb0 : Below w7.heap.size w7 w7 := Below.refl _ _
        have KK := Lib.hid (fun (W : World) (hb : Below w7.heap.size w7 W) => (show W.cell? ⟨wr.heap.size, 1, none⟩ = some (.int .i64 (i : Int)) ∧ W.cell? ⟨wr.heap.size, 2, none⟩ = some (.int .i64 (α : Int)) ∧ W.cell? ⟨wr.heap.size, 3, none⟩ = some (.int .i64 x0) ∧ W.cell? ⟨g7, o7 + α, none⟩ = some (.int .i64 x0) ∧ Below w7.heap.size w7 W from ⟨(hop7.below hb).cell 1, (hop7.below hb).cell 2, (hop7.below hb).cell 3, (hb.cell (p := ⟨g7, o7 + α, none⟩) hg7).trans hcell7, hb⟩))
        have wt := fun W (hb : Below w7.heap.size w7 W) => (waits6_ok (L.up f4) N l2 (qs.set i []) i [] W (M7.out.bus.below hb) HQ2.out).mono (R' := fun e w' => ∃ b, e = .returned (.slice (some ⟨b, 0, none⟩) 0 0) ∧ Below w7.heap.size w7 w') (fun e w' ⟨b, he, _, _, hb'⟩ => ⟨b, he, below_on hb hb'⟩)
        unfold ptr at wt
        have WT := Lib.hid wt
        have AL := Lib.hid (fun W (hb : Below w7.heap.size w7 W) => (alive6 W).mono (R' := fun e w' => e = .returned (.bool true) ∧ Below w7.heap.size w7 w') (fun e w' ⟨he, hb'⟩ => ⟨he, below_on hb hb'⟩))
        have hxx : (x0 == x0) = true := by simp
        have s1 : w7.cell? ⟨wr.heap.size, 1, none⟩ = some (.int .i64 (i : Int)) := hop7.cell 1
        have s2 : w7.cell? ⟨wr.heap.size, 2, none⟩ = some (.int .i64 (α : Int)) := hop7.cell 2
        have s3 : w7.cell? ⟨wr.heap.size, 3, none⟩ = some (.int .i64 x0) := hop7.cell 3
        clear r6 hg6 hh6 hb6 hb7 hop7 hA7 hc7 wt p1 p2 p3 p4
        go_wp2_with fail
        go_region_held3 (fun W => W.cell? ⟨wr.heap.size, 1, none⟩ = some (.int .i64 (i : Int)) ∧ W.cell? ⟨wr.heap.size, 2, none⟩ = some (.int .i64 (α : Int)) ∧ W.cell? ⟨wr.heap.size, 3, none⟩ = some (.int .i64 x0) ∧ W.cell? ⟨g7, o7 + α, none⟩ = some (.int .i64 x0) ∧ Below w7.heap.size w7 W)
          (first | exact KK.out _ hb9 | exact KK.out _ hb8 | exact KK.out _ hb0.drew | exact KK.out _ hb0 | go_keep)
          (first
            | (go_at_call 24; refine (WT.out _ ?_).mono ?_; (go_split_ands; assumption); rintro e w8 ⟨b8, rfl, hb8⟩)
            | (go_at_call 10; refine (AL.out _ ?_).mono ?_; (go_split_ands; assumption); rintro e w9 ⟨rfl, hb9⟩))
        all_goals go_wp2
        all_goals go_ret
        all_goals exact ⟨rfl, below_on (below_on (below_al _ _) M7.out.bel) hb9⟩
      · obtain ⟨z, eE⟩ : ∃ z, dE l qs 0 c0 a0 x0 = z := ⟨_, rfl⟩
        have hz : (z != 0) = true := by rw [eE] at hE; simpa using hE
        rw [eE] at SA
        have SAA := Lib.hid SA
        clear hE SA eE
        unfold ptr at SAA
        go_wp2_with fail
        refine SAA.out.mono ?_
        rintro e w2 h2
        obtain ⟨f2, rfl, m2, _, _⟩ := M1.out.step (dQ_len N l qs 0 c0 a0 x0) h2
        have M2 := Lib.hid m2
        clear m2 h2
        go_wp2_with fail
        refine (alive6 _).mono ?_
        rintro e w3 ⟨rfl, hb3⟩
        go_wp2
        go_ret
        exact ⟨rfl, below_on (below_on (below_al _ _) M2.out.bel) hb3⟩

set_option maxRecDepth 100000 in
set_option maxHeartbeats 1000000 in
theorem busOwn_any (c n b : Int) (v : Value) (R : List (List Int)) (K0 c0 a0 x0 : Int) (w : World) (hR : Recs w 4 v R) :
    Calls Try.prog 4 #[.int .i64 c, .int .i64 n, .int .i64 b, .agg #[v, .int .i64 K0, .int .i64 c0, .int .i64 a0, .int .i64 x0]] w fun e w' => e = .returned (.bool true) ∧ Below w.heap.size w w' := by
  by_cases h : 1 ≤ c ∧ c ≤ 8 ∧ 1 ≤ n ∧ n ≤ 65536 ∧ 1 ≤ b ∧ b ≤ 16
  · obtain ⟨h1, h2, h3, h4, h5, h6⟩ := h
    obtain ⟨C, rfl⟩ := Int.eq_ofNat_of_zero_le (show 0 ≤ c by omega)
    obtain ⟨m, rfl⟩ := Int.eq_ofNat_of_zero_le (show 0 ≤ n by omega)
    obtain ⟨N, rfl⟩ := Int.eq_ofNat_of_zero_le (show 0 ≤ b by omega)
    by_cases hf : R.length ≤ 80 ∧ m ≤ 200
    · exact busOwn_main C m N v R K0 c0 a0 x0 w (by omega) (by omega) (by omega) hf.2 (by omega) (by omega) hR hf.1
    · obtain ⟨A, cc, rfl, hA⟩ := hR
      clear hA
      have NW := Lib.hid (fun W => new6_yes C m N W (by omega) (by omega) (by omega) (by omega) (by omega) (by omega))
      have fw := few6_any (m : Int) A R.length cc
      have hfew : (decide ((R.length : Int) ≤ 80) && decide ((m : Int) ≤ 200)) = false := by
        rw [Bool.and_eq_false_iff]
        simp only [decide_eq_false_iff_not]
        omega
      rw [hfew] at fw
      have FW := Lib.hid fw
      clear fw hfew
      unfold ptr at NW
      go_enter Try.func4, Try.ntmps4
      go_wp2_with fail
      refine (NW.out _).mono ?_
      rintro e w1 ⟨L, rfl, hr1, hn1', hb1⟩
      have hbox := (Row.new w 45 #[.slice A R.length cc, .int .i64 K0, .int .i64 c0, .int .i64 a0, .int .i64 x0]).below hb1
      have p0 := hbox.cell 0
      simp only [List.getElem?_cons_zero] at p0
      go_wp2_with fail
      refine (FW.out w1).mono ?_
      rintro e w' ⟨rfl, rfl⟩
      go_wp2_with fail
      refine (alive6 _).mono ?_
      rintro e w6 ⟨rfl, hb6⟩
      go_wp2
      go_ret
      exact ⟨rfl, below_on (below_on (below_al _ _) hb1) hb6⟩
  · have NW := Lib.hid (fun W => new6_no c n b W h)
    clear h
    go_enter Try.func4, Try.ntmps4
    go_wp2_with fail
    refine (NW.out _).mono ?_
    rintro e w1 ⟨rfl, hb1⟩
    go_wp2_with fail
    refine (alive6 _).mono ?_
    rintro e w6 ⟨rfl, hb6⟩
    go_wp2
    go_ret
    exact ⟨rfl, below_on (below_on (below_al _ _) hb1) hb6⟩

#print axioms busOwn_any
end Go.Proofs.Ytoiaojpomhjlaaa
