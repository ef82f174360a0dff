/-
  The walk of the law MboxSame: it returns true for every input, and nothing that was there before the call changes.
  Conditions: none.
-/
import Derived.Test.YtfboikefjealfaaMb20
namespace Go.Proofs.Ytfboikefjealfaa
open Go.ChangeShapes Go.WideShapes Go.ChangeAt Go.RowKit

set_option maxRecDepth 100000 in
set_option maxHeartbeats 8000000 in
theorem mboxSame_main (na nb : Nat) (v0 v1 : Value) (R0 R1 : List (List Int)) (K c t x : Int) (w : World) (a0 : 1 ≤ na) (a1 : na ≤ 8) (b0 : 1 ≤ nb) (b1 : nb ≤ 8) (hR0 : Recs w 4 v0 R0) (hR1 : Recs w 4 v1 R1) (hm0 : R0.length ≤ 60) (hm1 : R1.length ≤ 60) (hx : -9223372036854775808 ≤ x ∧ x ≤ 9223372036854775807) :
    Calls Try.prog 4 #[.agg #[.int .i64 (na : Int), .int .i64 (nb : Int)], .agg #[v0, v1], opV9 K c t x] w fun e w' => e = .returned (.bool true) ∧ Below w.heap.size w w' := by
  have HR0 := Lib.hid hR0
  obtain ⟨A0, d0, rfl, hA0⟩ := hR0
  clear hA0
  have HR1 := Lib.hid hR1
  obtain ⟨A1, d1, rfl, hA1⟩ := hR1
  clear hA1
  obtain ⟨m0, hm0'⟩ : ∃ m, R0.length = m := ⟨_, rfl⟩
  obtain ⟨m1, hm1'⟩ : ∃ m, R1.length = m := ⟨_, rfl⟩
  rw [hm0'] at hm0 HR0 ⊢
  rw [hm1'] at hm1 HR1 ⊢
  have HM0 := Lib.hid hm0'
  have HM1 := Lib.hid hm1'
  have q1 : decide ((60 : Int) < (m0 : Int)) = false := by simp; omega
  have q2 : decide ((60 : Int) < (m1 : Int)) = false := by simp; omega
  have g1 : ¬ ((60 : Int) < (m0 : Int)) := by omega
  have g2 : ¬ ((60 : Int) < (m1 : Int)) := by omega
  have IS := fun (n : Nat) (h : 1 ≤ n ∧ n ≤ 8) W => (ris9_any (n : Int) W)
  have isa : isC (na : Int) = true := by unfold isC; simp; omega
  have isb : isC (nb : Int) = true := by unfold isC; simp; omega
  have ISA := fun W => ris9_any (na : Int) W
  have ISB := fun W => ris9_any (nb : Int) W
  simp only [isa] at ISA
  simp only [isb] at ISB
  have HISA := Lib.hid ISA
  have HISB := Lib.hid ISB
  have HX := Lib.hid hx
  have hmka := fun W => run_make_rowN (P := Try.prog) 28 40 _ 9 32 Try.underlying28 core_info .i64 .i64 na (by omega) (by omega) W
  have hmkb := fun W => run_make_rowN (P := Try.prog) 28 40 _ 9 32 Try.underlying28 core_info .i64 .i64 nb (by omega) (by omega) W
  obtain ⟨Za, hZa⟩ : ∃ Z, Z = madeCells (Value.cells (.agg #[.bool false, .bool false, .bool false, .bool false, .bool false, .bool false, .bool false, .bool false, .slice none 0 0])) (na * 9) := ⟨_, rfl⟩
  rw [← hZa] at hmka
  obtain ⟨Zb, hZb⟩ : ∃ Z, Z = madeCells (Value.cells (.agg #[.bool false, .bool false, .bool false, .bool false, .bool false, .bool false, .bool false, .bool false, .slice none 0 0])) (nb * 9) := ⟨_, rfl⟩
  rw [← hZb] at hmkb
  have HZa := Lib.hid hZa
  have HZb := Lib.hid hZb
  have A0' : Arg9 w (((w.alloc (.cells #[.int .i64 (na : Int), .int .i64 (nb : Int)] 47)).alloc (.cells #[.slice A0 m0 d0, .slice A1 m1 d1] 48)).alloc (.cells #[.int .i64 K, .int .i64 c, .int .i64 t, .int .i64 x] 30)) na nb (.slice A0 m0 d0) (.slice A1 m1 d1) K c t x := by
    have h1 := Row.new (w.alloc (.cells #[.int .i64 (na : Int), .int .i64 (nb : Int)] 47)) 48 #[.slice A0 m0 d0, .slice A1 m1 d1]
    have h2 := Row.new ((w.alloc (.cells #[.int .i64 (na : Int), .int .i64 (nb : Int)] 47)).alloc (.cells #[.slice A0 m0 d0, .slice A1 m1 d1] 48)) 30 #[.int .i64 K, .int .i64 c, .int .i64 t, .int .i64 x]
    simp only [size_al] at h1 h2
    exact ⟨below_on (below_on (below_al _ _) (below_al _ _)) (below_al _ _), ((Row.new w 47 #[.int .i64 (na : Int), .int .i64 (nb : Int)]).below (below_al _ _)).below (below_al _ _), h1.below (below_al _ _), h2⟩
  have ARG := Lib.hid A0'
  clear hm0' hm1' IS isa isb ISA ISB hx hZa hZb A0'
  unfold opV9
  go_enter Try.func4, Try.ntmps4
  go_wp2_with fail
  have arg := ARG.out
  have hsz0 : (((w.alloc (.cells #[.int .i64 (na : Int), .int .i64 (nb : Int)] 47)).alloc (.cells #[.slice A0 m0 d0, .slice A1 m1 d1] 48)).alloc (.cells #[.int .i64 K, .int .i64 c, .int .i64 t, .int .i64 x] 30)).heap.size = w.heap.size + 3 := by simp
  generalize ((w.alloc (.cells #[.int .i64 (na : Int), .int .i64 (nb : Int)] 47)).alloc (.cells #[.slice A0 m0 d0, .slice A1 m1 d1] 48)).alloc (.cells #[.int .i64 K, .int .i64 c, .int .i64 t, .int .i64 x] 30) = w0 at arg hsz0 ⊢
  clear ARG
  have hb0 : Below w0.heap.size w0 w0 := Below.refl _ _
  have ARG := Lib.hid arg
  have HSZ := Lib.hid hsz0
  have KK := Lib.hid (fun (W : World) (hb : Below w0.heap.size w0 W) => (show W.cell? ⟨w.heap.size, 0, none⟩ = some (.int .i64 (na : Int)) ∧ W.cell? ⟨w.heap.size, 1, none⟩ = some (.int .i64 (nb : Int)) ∧ Below w0.heap.size w0 W from ⟨(arg.below hb).a.cell 0, (arg.below hb).a.cell 1, hb⟩))
  have NA := Lib.hid (new_9 a0 a1 w0)
  have NB := Lib.hid (new_9 b0 b1 w0)
  clear arg hsz0
  go_region_held3 (fun W => W.cell? ⟨w.heap.size, 0, none⟩ = some (.int .i64 (na : Int)) ∧ W.cell? ⟨w.heap.size, 1, none⟩ = some (.int .i64 (nb : Int)) ∧ Below w0.heap.size w0 W)
    (first | exact KK.out _ hb6 | exact KK.out _ hb5 | exact KK.out _ hb0.drew | exact KK.out _ hb0 | go_keep)
    (first
      | (go_at_call 8; (with_reducible refine (NA.out _ ?_).mono ?_); (go_split_ands; assumption); rintro e w5 ⟨La, rfl, ra5, na5, hb5, ka5⟩)
      | (go_at_call 8; (with_reducible refine (NB.out _ ?_).mono ?_); (go_split_ands; assumption); rintro e w6 ⟨Lb, rfl, rb6, nb6, hb6, kb6⟩))
  have ra6 := ra5.out.below kb6.out
  have ap : ∀ g, La.fp na g → ¬ Lb.fp nb g := fun g h1 h2 => by
    have h3 := ra5.out.fp_lt (by rw [List.length_replicate]; exact h1)
    have h4 := nb6.out g h2
    omega
  have hna : ∀ g, La.fp na g → w.heap.size + 3 ≤ g := fun g h => by have := na5.out g h; rw [show w0.drew.heap.size = w0.heap.size from rfl, HSZ.out] at this; exact this
  have hnb : ∀ g, Lb.fp nb g → w.heap.size + 3 ≤ g := fun g h => by have := nb6.out g h; have := hb5.size; have := HSZ.out; omega
  have ARG6 := Lib.hid (ARG.out.below hb6)
  have RA6 := Lib.hid ra6
  have RB6 := rb6
  have AP := Lib.hid ap
  have HNA := Lib.hid hna
  have HNB := Lib.hid hnb
  have x0 := ARG6.out.a.cell 0
  have x1 := ARG6.out.a.cell 1
  have x2 := ARG6.out.b.cell 0
  have x3 := ARG6.out.b.cell 1
  simp only [List.getElem?_cons_zero, List.getElem?_cons_succ] at x0 x1 x2 x3
  have l6 := ARG6.out.d.lt
  have ne1 : w.heap.size ≠ w6.heap.size := by omega
  have ne2 : w.heap.size + 1 ≠ w6.heap.size := by omega
  have lt1 : w.heap.size < w6.heap.size := by omega
  have lt2 : w.heap.size + 1 < w6.heap.size := by omega
  clear ra6 ap hna hnb ra5 na5 nb6 hb5 ka5 hb6 kb6 KK NA NB hb0 ARG HSZ rb6
  go_wp2_with (first
    | (go_at_call 9; (with_reducible refine (HISA.out _).mono ?_); rintro e w' ⟨rfl, rfl⟩)
    | (go_at_call 9; (with_reducible refine (HISB.out _).mono ?_); rintro e w' ⟨rfl, rfl⟩))
  go_region
  all_goals first
    | (show Exit.then _ _ _ _ ((w6.alloc (.cells Za _)).alloc (.cells Zb _)).drew
       have T := (TwoB.start HZa.out HZb.out a0 a1 b0 b1 RA6.out RB6.out AP.out HNA.out HNB.out ARG6.out).1
       have HT : Hid (∃ A9 A10, A9 = (some ⟨w6.heap.size, 0, none⟩ : Option Addr) ∧ A10 = (some ⟨w6.heap.size + 1, 0, none⟩ : Option Addr) ∧ TwoB w _ La Lb na nb (List.replicate na mail0) (List.replicate nb mail0) (.slice A9 na na) (.slice A10 nb nb) na nb (.slice A0 m0 d0) (.slice A1 m1 d1) K c t x) := Lib.hid ⟨_, _, rfl, rfl, T⟩
       clear T
       generalize ((w6.alloc (.cells Za 40)).alloc (.cells Zb 40)).drew = w7 at HT ⊢)
    | (show Exit.then _ _ _ _ ((w6.alloc (.cells Zb _)).alloc (.cells Za _)).drew
       have T := (TwoB.start HZa.out HZb.out a0 a1 b0 b1 RA6.out RB6.out AP.out HNA.out HNB.out ARG6.out).2
       have HT : Hid (∃ A9 A10, A9 = (some ⟨w6.heap.size + 1, 0, none⟩ : Option Addr) ∧ A10 = (some ⟨w6.heap.size, 0, none⟩ : Option Addr) ∧ TwoB w _ La Lb na nb (List.replicate na mail0) (List.replicate nb mail0) (.slice A9 na na) (.slice A10 nb nb) na nb (.slice A0 m0 d0) (.slice A1 m1 d1) K c t x) := Lib.hid ⟨_, _, rfl, rfl, T⟩
       clear T
       generalize ((w6.alloc (.cells Zb 40)).alloc (.cells Za 40)).drew = w7 at HT ⊢)
  all_goals
    obtain ⟨A9, A10, e9, e10, T⟩ := HT.out
    rw [← e9, ← e10]
    clear HT e9 e10
    have HT := Lib.hid T
    have y0 := T.arg.b.cell 0
    have y1 := T.arg.b.cell 1
    simp only [List.getElem?_cons_zero, List.getElem?_cons_succ] at y0 y1
    clear T x0 x1 x2 x3 ne1 ne2 lt1 lt2 l6 ARG6 RA6 RB6 AP HNA HNB hmka hmkb HZa HZb HISA HISB
    go_wp2_with fail
    go_loopw [9, 65] (fun vv i wr => ∃ (k : Nat) (ms : List Mail) (A6 : Option Addr) (c6 : Nat), k ≤ m0 ∧ i = .int .i64 k ∧ vv = .slice A6 na c6 ∧ Hid (TwoB w wr La Lb na nb ms (List.replicate nb mail0) (.slice A6 na c6) (.slice A10 nb nb) na nb (.slice A0 m0 d0) (.slice A1 m1 d1) K c t x)) (fun _ i _ => m0 - (intOf i).toNat)
    case atStart => exact ⟨0, _, _, _, Nat.zero_le _, rfl, rfl, HT⟩
    case round =>
      clear HT
      obtain ⟨k, ms, A6, c6, hk, rfl, rfl, S⟩ := hrel
      by_cases hlt : k < m0
      · obtain ⟨ad, c', K1, e1, t1, x1, hzs, hv', hz, z0, z1, z2, z3⟩ := Recs.four HR0.out S.out.arg.bel (by rw [HM0.out]; exact hlt)
        rw [HM0.out] at hv'
        injection hv' with hv' _ hv2
        subst hv' hv2
        have hx1 := hz x1 (by simp)
        clear hzs hz
        have S1 := Lib.hid (S.out.quiet (below_al wr (.cells #[.int .i64 K1, .int .i64 e1, .int .i64 t1, .int .i64 x1] 30)))
        have hop := Lib.hid (Row.new wr 30 #[.int .i64 K1, .int .i64 e1, .int .i64 t1, .int .i64 x1])
        have DO := do9_any La ms K1 e1 t1 x1 _ S1.out.a
        have RD := fun W r hP => rdo9_any (fun g => ¬ La.fp na g ∧ ¬ Lb.fp nb g) ms (.slice A6 na c6) K1 e1 t1 x1 W r hx1 hP
        obtain ⟨F, hF⟩ : ∃ z, dF ms K1 e1 = z := ⟨_, rfl⟩
        obtain ⟨V, hV⟩ : ∃ z, dW ms K1 e1 = z := ⟨_, rfl⟩
        obtain ⟨E, hE⟩ : ∃ z, dE ms K1 e1 t1 x1 = z := ⟨_, rfl⟩
        obtain ⟨ms', hms⟩ : ∃ z, dMs ms K1 e1 t1 x1 = z := ⟨_, rfl⟩
        have hlen : ms'.length = ms.length := by rw [← hms]; exact dMs_len _ _ _ _ _
        rw [hF, hV, hE, hms] at DO
        simp only [hF, hV, hE, hms] at RD
        unfold opV9 at RD DO
        unfold doV9 at DO
        have HRD := Lib.hid RD
        have HDO := Lib.hid DO
        have HLN := Lib.hid hlen
        have hfar := Lib.hid (fun g (hg : wr.heap.size ≤ g) => S.out.far hg)
        clear RD DO hF hV hE hms hlen hx1
        go_wp2_with fail
        refine HDO.out.mono ?_
        rintro e w8 ⟨rfl, hr8, ho8⟩
        have hno : ¬ La.fp ms'.length wr.heap.size := by rw [HLN.out, S.out.la]; exact (hfar.out _ (Nat.le_refl _)).1
        have ro := hop.out.only ho8 hno
        have o0 := ro.cell 0
        have o1 := ro.cell 1
        have o2 := ro.cell 2
        have o3 := ro.cell 3
        simp only [List.getElem?_cons_zero, List.getElem?_cons_succ] at o0 o1 o2 o3
        have hs8 := ho8.size
        rw [size_al] at hs8
        have RR := HRD.out w8 (S1.out.keepA HLN.out ho8 S1.out.ra) (fun b hb => hfar.out b (by omega))
        have HRR := Lib.hid RR
        have HR8 := Lib.hid hr8
        have HO8 := Lib.hid ho8
        clear RR hr8 ho8 ro hno z0 z1 z2 z3
        go_wp2_with fail
        refine HRR.out.mono ?_
        rintro e w9 ⟨A7, n7, c7, rfl, hr9, hb9⟩
        dsimp only
        have hn7 : n7 = na := (by obtain ⟨A', c'', e3⟩ := hr9.open_; injection e3 with _ e3 _; rw [e3, HLN.out, S.out.la])
        subst hn7
        have S9 := Lib.hid (S1.out.stepA (HR8.out.below hb9) HLN.out (HO8.out.then_below hb9) hr9)
        clear hr9 hb9 HRR HR8 HO8 S1 hop o0 o1 o2 o3 HRD HDO
        go_wp2_with fail
        go_roundw
        case rel => exact ⟨k + 1, ms', A7, c7, by omega, by go_num, rfl, S9⟩
        case measure => simp [intOf]; omega
      · obtain rfl : m0 = k := by omega
        have y1 := S.out.arg.b.cell 1
        simp only [List.getElem?_cons_zero, List.getElem?_cons_succ] at y1
        have SS := S
        clear S
        go_wp2_with fail
        go_loopw [10, 83] (fun vv i wr => ∃ (k : Nat) (ns : List Mail) (A8 : Option Addr) (c8 : Nat), k ≤ m1 ∧ i = .int .i64 k ∧ vv = .slice A8 nb c8 ∧ Hid (TwoB w wr La Lb na nb ms ns (.slice A6 na c6) (.slice A8 nb c8) na nb (.slice A0 m0 d0) (.slice A1 m1 d1) K c t x)) (fun _ i _ => m1 - (intOf i).toNat)
        case atStart => exact ⟨0, _, _, _, Nat.zero_le _, rfl, rfl, SS⟩
        case round =>
          obtain ⟨wo, rfl⟩ : ∃ wo, wo = wr := ⟨_, rfl⟩
          clear SS
          obtain ⟨k, ns, A8, c8, hk, rfl, rfl, S⟩ := hrel
          by_cases hlt : k < m1
          · obtain ⟨ad, c', K1, e1, t1, x1, hzs, hv', hz, z0, z1, z2, z3⟩ := Recs.four HR1.out S.out.arg.bel (by rw [HM1.out]; exact hlt)
            rw [HM1.out] at hv'
            injection hv' with hv' _ hv2
            subst hv' hv2
            have hx1 := hz x1 (by simp)
            clear hzs hz
            have S1 := Lib.hid (S.out.quiet (below_al wo (.cells #[.int .i64 K1, .int .i64 e1, .int .i64 t1, .int .i64 x1] 30)))
            have hop := Lib.hid (Row.new wo 30 #[.int .i64 K1, .int .i64 e1, .int .i64 t1, .int .i64 x1])
            have DO := do9_any Lb ns K1 e1 t1 x1 _ S1.out.b
            have RD := fun W r hP => rdo9_any (fun g => ¬ La.fp na g ∧ ¬ Lb.fp nb g) ns (.slice A8 nb c8) K1 e1 t1 x1 W r hx1 hP
            obtain ⟨F, hF⟩ : ∃ z, dF ns K1 e1 = z := ⟨_, rfl⟩
            obtain ⟨V, hV⟩ : ∃ z, dW ns K1 e1 = z := ⟨_, rfl⟩
            obtain ⟨E, hE⟩ : ∃ z, dE ns K1 e1 t1 x1 = z := ⟨_, rfl⟩
            obtain ⟨ns', hms⟩ : ∃ z, dMs ns K1 e1 t1 x1 = z := ⟨_, rfl⟩
            have hlen : ns'.length = ns.length := by rw [← hms]; exact dMs_len _ _ _ _ _
            rw [hF, hV, hE, hms] at DO
            simp only [hF, hV, hE, hms] at RD
            unfold opV9 at RD DO
            unfold doV9 at DO
            have HRD := Lib.hid RD
            have HDO := Lib.hid DO
            have HLN := Lib.hid hlen
            have hfar := Lib.hid (fun g (hg : wo.heap.size ≤ g) => S.out.far hg)
            clear RD DO hF hV hE hms hlen hx1
            go_wp2_with fail
            refine HDO.out.mono ?_
            rintro e w8 ⟨rfl, hr8, ho8⟩
            have hno : ¬ Lb.fp ns'.length wo.heap.size := by rw [HLN.out, S.out.lb]; exact (hfar.out _ (Nat.le_refl _)).2
            have ro := hop.out.only ho8 hno
            have o0 := ro.cell 0
            have o1 := ro.cell 1
            have o2 := ro.cell 2
            have o3 := ro.cell 3
            simp only [List.getElem?_cons_zero, List.getElem?_cons_succ] at o0 o1 o2 o3
            have hs8 := ho8.size
            rw [size_al] at hs8
            have RR := HRD.out w8 (S1.out.keepB HLN.out ho8 S1.out.rb) (fun b hb => hfar.out b (by omega))
            have HRR := Lib.hid RR
            have HR8 := Lib.hid hr8
            have HO8 := Lib.hid ho8
            clear RR hr8 ho8 ro hno z0 z1 z2 z3
            go_wp2_with fail
            refine HRR.out.mono ?_
            rintro e w9 ⟨A7, n7, c7, rfl, hr9, hb9⟩
            dsimp only
            have hn7 : n7 = nb := (by obtain ⟨A', c'', e3⟩ := hr9.open_; injection e3 with _ e3 _; rw [e3, HLN.out, S.out.lb])
            subst hn7
            have S9 := Lib.hid (S1.out.stepB (HR8.out.below hb9) HLN.out (HO8.out.then_below hb9) hr9)
            clear hr9 hb9 HRR HR8 HO8 S1 hop o0 o1 o2 o3 HRD HDO
            go_wp2_with fail
            go_roundw
            case rel => exact ⟨k + 1, ns', A7, c7, by omega, by go_num, rfl, S9⟩
            case measure => simp [intOf]; omega
          · obtain rfl : m1 = k := by omega
            have T := S.out
            have hDD : ∀ D : Bool, (D != D) = false := fun D => by cases D <;> rfl
            have hEE : ∀ D : Bool, (D == D) = true := fun D => by cases D <;> rfl
            have SA := same9_any La Lb ms ns wo T.a T.b
            have SR := fun W (hb : Below wo.heap.size wo W) => rsame9_quiet _ _ ms ns (.slice A6 na c6) (.slice A8 nb c8) W (T.ra.below hb) (T.rb.below hb)
            obtain ⟨D, hD⟩ : ∃ D, decide (ms = ns) = D := ⟨_, rfl⟩
            rw [hD] at SA
            simp only [hD] at SR
            have hd1 := hDD D
            have HSA := Lib.hid SA
            have HSR := Lib.hid SR
            have SAA := Lib.hid (fun W (hb : Below wo.heap.size wo W) => (same9_any La La ms ms W (T.a.below hb) (T.a.below hb)).mono (R' := fun e w' => e = .returned (.bool true) ∧ Below W.heap.size W w') (fun e w' ⟨he, hb'⟩ => ⟨by rw [he]; simp, hb'⟩))
            have CL := Lib.hid (fun W (hb : Below wo.heap.size wo W) => clone9_any La ms W (T.a.below hb))
            clear T SA SR hD
            go_wp2_with fail
            refine HSA.out.mono ?_
            rintro e w10 ⟨rfl, hb10⟩
            go_wp2_with fail
            refine (HSR.out _ hb10).mono ?_
            rintro e w11 ⟨rfl, q11, rfl⟩
            have B11 := Lib.hid (below_dn hb10 q11)
            clear hb10
            go_wp2_with fail
            refine (SAA.out _ B11.out).mono ?_
            rintro e w12 ⟨rfl, hb12⟩
            have B12 := Lib.hid (below_on B11.out hb12)
            clear hb12
            go_wp2_with fail
            refine (CL.out _ B12.out).mono ?_
            rintro e w13 ⟨Lc, rfl, rc13, nc13, hb13⟩
            have B13 := Lib.hid (below_on B12.out hb13)
            have RC13 := Lib.hid rc13
            have NC13 := Lib.hid (fun g (h : Lc.fp ms.length g) => Nat.le_trans B12.out.size (nc13 g h))
            have SAC := Lib.hid ((same9_any La Lc ms ms w13 (S.out.a.below B13.out) rc13).mono (R' := fun e w' => e = .returned (.bool true) ∧ Below w13.heap.size w13 w') (fun e w' ⟨he, hb'⟩ => ⟨by rw [he]; simp, hb'⟩))
            clear rc13 nc13 hb13
            go_wp2_with fail
            refine SAC.out.mono ?_
            rintro e w14 ⟨rfl, hb14⟩
            have B14 := Lib.hid (below_on B13.out hb14)
            have RC14 := Lib.hid (RC13.out.below hb14)
            have o0 := (S.out.arg.below B14.out).d.cell 0
            have o1 := (S.out.arg.below B14.out).d.cell 1
            have o2 := (S.out.arg.below B14.out).d.cell 2
            have o3 := (S.out.arg.below B14.out).d.cell 3
            simp only [List.getElem?_cons_zero, List.getElem?_cons_succ] at o0 o1 o2 o3
            have DO := do9_any Lc ms K c t x w14 RC14.out
            obtain ⟨F, hF⟩ : ∃ z, dF ms K c = z := ⟨_, rfl⟩
            obtain ⟨V, hV⟩ : ∃ z, dW ms K c = z := ⟨_, rfl⟩
            obtain ⟨E, hE⟩ : ∃ z, dE ms K c t x = z := ⟨_, rfl⟩
            obtain ⟨ms', hms⟩ : ∃ z, dMs ms K c t x = z := ⟨_, rfl⟩
            have hlen : ms'.length = ms.length := by rw [← hms]; exact dMs_len _ _ _ _ _
            have RD := fun W r => rdo9_any (fun _ => True) ms (.slice A6 na c6) K c t x W r HX.out (fun _ _ => trivial)
            rw [hF, hV, hE, hms] at DO
            simp only [hF, hV, hE, hms] at RD
            unfold opV9 at RD DO
            unfold doV9 at DO
            have HRD := Lib.hid RD
            have HDO := Lib.hid DO
            have HLN := Lib.hid hlen
            clear hb14 RD DO hF hV hE hms hlen
            go_wp2_with fail
            refine HDO.out.mono ?_
            rintro e w15 ⟨rfl, hr15, ho15⟩
            have hol : Only (fun g => wo.heap.size ≤ g) w14 w15 := ho15.mono (fun g _ h => NC13.out g (by rw [HLN.out] at h; exact h))
            have B15 := Lib.hid (Only.below B14.out hol B14.out.size (fun g hg h => by omega))
            have RC15 := Lib.hid hr15
            have RV15 := Lib.hid ((S.out.ra.below B15.out).weak (Q := fun _ => True) (fun _ _ _ => trivial))
            have o0 := (S.out.arg.below B15.out).d.cell 0
            have o1 := (S.out.arg.below B15.out).d.cell 1
            have o2 := (S.out.arg.below B15.out).d.cell 2
            have o3 := (S.out.arg.below B15.out).d.cell 3
            simp only [List.getElem?_cons_zero, List.getElem?_cons_succ] at o0 o1 o2 o3
            have RR := Lib.hid (HRD.out w15 RV15.out)
            clear hr15 ho15 hol
            go_wp2_with fail
            refine RR.out.mono ?_
            rintro e w16 ⟨A17, n17, c17, rfl, hr16, hb16⟩
            dsimp only
            have bI := below_al w16 (.cells #[.int .i64 F, .int .i64 V] 32)
            have B16 := below_on hb16 bI
            have HU := Lib.hid (hr16.below bI)
            have HV16 := Lib.hid (RV15.out.below B16)
            have HA16 := Lib.hid ((S.out.a.below B15.out).below B16)
            have HC16 := Lib.hid (RC15.out.below B16)
            have HB16 := Lib.hid (below_on B15.out B16)
            obtain ⟨D2, hD2⟩ : ∃ D, decide (ms = ms') = D := ⟨_, rfl⟩
            have hD3 : decide (ms' = ms) = D2 := by rw [← hD2]; exact decide_eq_decide.2 ⟨Eq.symm, Eq.symm⟩
            have S1 := fun W hb => same9_any La Lc ms ms' W (HA16.out.below hb) (HC16.out.below hb)
            have S2 := fun W hb => same9_any Lc La ms' ms W (HC16.out.below hb) (HA16.out.below hb)
            have S3 := fun W hb => rsame9_quiet _ _ ms ms' (.slice A6 na c6) (.slice A17 n17 c17) W (HV16.out.below hb) (HU.out.below hb)
            simp only [hD2] at S1 S3
            simp only [hD3] at S2
            have HS1 := Lib.hid S1
            have HS2 := Lib.hid S2
            have HS3 := Lib.hid S3
            have hd2 := hEE D2
            have HA := Lib.hid (fun W => alive9 W)
            clear hr16 hb16 bI B16 hD2 hD3 S1 S2 S3 o0 o1 o2 o3 hDD hEE
            go_wp2_with fail
            refine (HS1.out _ (Below.refl _ _)).mono ?_
            rintro e w17 ⟨rfl, hb17⟩
            go_wp2_with fail
            refine (HS3.out _ hb17).mono ?_
            rintro e w18 ⟨rfl, q18, rfl⟩
            have B18 := below_dn hb17 q18
            go_wp2_with fail
            refine (HS2.out _ B18).mono ?_
            rintro e w19 ⟨rfl, hb19⟩
            have B19 := below_on B18 hb19
            go_wp2_with fail
            refine (HS3.out _ B19).mono ?_
            rintro e w20 ⟨rfl, q20, rfl⟩
            have B20 := below_dn B19 q20
            go_wp2_with fail
            refine (HA.out _).mono ?_
            rintro e w21 ⟨rfl, hb21⟩
            have BF := Lib.hid (below_on S.out.arg.bel (below_on HB16.out (below_on B20 hb21)))
            clear hb17 B18 hb19 B19 B20 hb21
            go_wp2
            go_ret
            exact ⟨rfl, BF.out⟩

#print axioms mboxSame_main
end Go.Proofs.Ytfboikefjealfaa
