/-
  Layer 17 (taker): the walk of the law GiverLinks.
  Conditions: those that each theorem states.
-/
import Derived.Test.YtgdbaaoifnedbaaDoorTk14
import Derived.Deep.RegionHeld3
namespace Go.Proofs.YtgdbaaoifnedbaaDoor
open Go.ChangeShapes Go.WideShapes Go.ChangeAt Go.RowKit

/-- Another port, of new blocks alone. -/
theorem Lj17.again {w wr w1 : World} {g p p' a b : Nat} {G : Tk} {k : Value} {V E K V' E' K' : List Int} {ring : Int} (L : Lj17 w wr g p G V E K ring) (hb : Below wr.heap.size wr w1) (rp : PlainAt w1 p' a b k V' E' K') (hn : ∀ x, own17p p' a k x ∨ x = b → wr.heap.size ≤ x) : Lj17 w w1 g p' G V' E' K' ring := by
  have hlt := L.box.lt
  exact ⟨L.box.below hb, (sysP17_of L.sys.gis hb rp hn).weak (fun x _ h => by rcases h with h | h <;> omega), below_on L.below hb⟩

theorem at_lj (R : Nat) (f v : Int) (h : 1 ≤ f ∧ f ≤ 4) (e : f - 1 = v) : atV13 0 (R : Int) f 0 0 = v := (lj_ad (lk0 R) rfl f h).trans e
theorem at_lj5 (R : Nat) (h : 1 ≤ R) : atV13 0 (R : Int) 5 0 0 = 4 := lj_ad5 (lk0 R) rfl h

set_option maxRecDepth 100000 in
set_option maxHeartbeats 8000000 in
theorem links17_yes (R : Nat) (ep mk : Int) (w : World) (hR : okRing (R : Int)) (h16 : R ≤ 16) (hT : TabAt w) (he1 : 1 ≤ ep) (he2 : ep ≤ 65535) (hm1 : 0 ≤ mk) (hm2 : mk ≤ 65535) (hme : mk ≠ ep) :
    Calls Tryd.prog 8 #[.int .i64 (R : Int), .int .i64 ep, .int .i64 mk] w fun e w' => e = .returned (.bool true) ∧ Below w.heap.size w w' := by
  have n16 : decide ((16 : Int) < (R : Int)) = false := by simp; omega
  have g1 : decide (ep < 1) = false := by simp; omega
  have g2 : decide ((65535 : Int) < ep) = false := by simp; omega
  have g3 : decide (mk < 0) = false := by simp; omega
  have g4 : decide ((65535 : Int) < mk) = false := by simp; omega
  have g5 : (mk == ep) = false := by simpa using hme
  have KR := Lib.hid (fun W => rring13_any (R : Int) W)
  have e0 : decide (okRing (R : Int)) = true := decide_eq_true hR
  rw [e0] at KR
  have HT := Lib.hid hT
  have KM := Lib.hid (fun W => made17_yes (B := 0) (r := R) (self := 2) (peer := 1) (own := 0) ⟨hR, by omega, by omega, by omega, by omega, by omega⟩ W)
  unfold baseV17 at KM
  obtain ⟨N, hN⟩ : ∃ N, 4 + 11 * R = N := ⟨_, rfl⟩
  have hN2 : 20 ≤ N ∧ N ≤ 2000 := by have := hR.bd; omega
  have KZ := Lib.hid (fun W => size13_any (R : Int) W)
  have ez : sizeP (R : Int) = (N : Int) := by unfold sizeP; rw [if_pos hR]; omega
  rw [ez] at KZ
  have hmk : ∀ W : World, (Instr.makeSlice 33 (.int .i64 (N : Int)) (.int .i64 (N : Int))).run Tryd.prog W = .ok (.slice (some ⟨W.heap.size, 0, none⟩) N N) (W.alloc (.cells (madeCells #[.int .i64 0] N) 3)) := fun W => run_make_row' (P := Tryd.prog) 33 3 (.int .i64 0) 8 Tryd.underlying33 int_info rfl .i64 .i64 N (by omega) (by omega) W
  have HM := Lib.hid (And.intro (And.intro he1 he2) (And.intro (And.intro hm1 hm2) hme))
  have hR2 : R ≤ 64 := by omega
  have HR := Lib.hid hR
  have HN := Lib.hid hN2
  have r0 := Row.new w 3 #[.int .i64 (R : Int)]
  have B0 := Lib.hid (below_al w (.cells #[.int .i64 (R : Int)] 3))
  have R0 := Lib.hid r0
  have q0 := r0.cell 0
  simp only [List.getElem?_cons_zero] at q0
  clear hT hR r0 e0 ez he1 he2 hm1 hm2 hme
  go_enter Tryd.func8, Tryd.ntmps8
  go_wp2_with (go_at_call 31; refine (KR.out _).mono ?_; rintro e w' ⟨rfl, rfl⟩)
  refine (KM.out _).mono ?_
  rintro e w1 ⟨g, rfl, s1, b1⟩
  have S1 := Lib.hid s1
  have B1 := Lib.hid (below_on B0.out b1)
  have R1 := Lib.hid (R0.out.below b1)
  have q1 := R1.out.cell 0
  simp only [List.getElem?_cons_zero] at q1
  clear s1 b1 KM KR R0
  unfold ptr
  go_wp2_with fail
  refine (KZ.out _).mono ?_
  rintro e w' ⟨rfl, rfl⟩
  go_wp2_with fail
  have hz := Row.new w1 3 (madeCells #[Value.int .i64 0] N)
  rw [ints_zeros] at hz
  have hz2 := hz.below (below_al (w1.alloc (.cells (madeCells #[Value.int .i64 0] N) 3)) (.cells #[.int .i64 0, .int .i64 0, .int .i64 0] 3))
  have he2 := Row.new (w1.alloc (.cells (madeCells #[Value.int .i64 0] N) 3)) 3 #[.int .i64 0, .int .i64 0, .int .i64 0]
  rw [size_al] at he2
  have hb3 := below_on (below_al w1 (.cells (madeCells #[Value.int .i64 0] N) 3)) (below_al (w1.alloc (.cells (madeCells #[Value.int .i64 0] N) 3)) (.cells #[.int .i64 0, .int .i64 0, .int .i64 0] 3))
  have hlz := Lies.of_row (P := fun _ => True) hz2 trivial N
  rw [show (ints (List.replicate N (0 : Int))).length = N by simp [ints]] at hlz
  refine (ofWords14_any (fun _ => True) (fun _ => True) (List.replicate N 0) [0, 0, 0] _ _ _ hlz (Lies.of_row he2 trivial 3) (by simp; omega) (by simp)).mono ?_
  rintro e w4 ⟨p, a, b, rfl, rp, ha, hp, hb4⟩
  have e1 : mod14 (List.replicate N 0) = List.replicate N 0 := by simp [mod14]
  rw [e1, show mod14 [0, 0, 0] = [0, 0, 0] by decide] at rp
  have L4 : Hid (Lj17 w w4 g p (lk0 R) (List.replicate N 0) [0, 0, 0] [] (R : Int)) := Lib.hid (by
    have hab := rp.ne
    have hs3 := hb3.size
    have hsw := R1.out.lt
    have hsys := sysP17_of S1.out (below_on hb3 hb4) rp (fun x hx => by
      rcases hx with hx | rfl
      · rcases hx with rfl | rfl | hx
        · omega
        · omega
        · cases hx
      · omega)
    refine ⟨(R1.out.below hb3).below hb4, hsys.weak (fun x _ h => ?_), below_on (below_on B1.out hb3) hb4⟩
    rcases h with h | h
    · simp at h; omega
    · omega)
  clear hlz hz hz2 he2 hb3 hb4 rp ha hp e1 hmk S1 R1 B1 q0 q1 KZ
  unfold ptr
  have KA := Lib.hid (L4.out.at_ 3 (by omega))
  rw [at_lj R 3 2 (by omega) rfl] at KA
  go_wp2_with fail
  refine KA.out.mono ?_
  rintro e w' ⟨rfl, rfl⟩
  clear KA
  have KL := Lib.hid (L4.out.store 2 1)
  go_wp2_with fail
  refine KL.out.mono ?_
  rintro e w5 ⟨rfl, L50⟩
  have L5 := Lib.hid L50
  clear KL L50 L4
  rw [show (1 : Int) % 65536 = 1 by decide] at L5
  obtain ⟨V0, hV0⟩ : ∃ V0, put14 (List.replicate N 0) 2 1 = V0 := ⟨_, rfl⟩
  have ov1 := lk_call1 HR.out N (K := []) (by have := HN.out; omega)
  rw [hV0] at L5 ov1
  have HV0 : Hid (V0.length = N ∧ (∀ i, nth14 V0 i = if i = 2 then 1 else 0)) := Lib.hid (by
    rw [← hV0]
    refine ⟨by rw [put14_len, List.length_replicate], fun i => ?_⟩
    rw [nth17_put, nth17_zeros]
    have : in14 (List.replicate N (0 : Int)) 2 = true := by have := HN.out; simp [in14]; omega
    rw [this]
    simp)
  clear hV0
  have KS := Lib.hid L5.out.recv
  rw [(lk_rec (G := lk0 R) rfl).2] at KS
  clear L5
  go_wp2_with fail
  refine KS.out.mono ?_
  rintro e w6 ⟨rfl, L6⟩
  clear KS
  have KX := Lib.hid (L6.run HT.out ov1 (by rw [(lk_rec (G := lk0 R) rfl).1]; show 14 ≤ 100; omega))
  unfold face14 at KX
  clear L6
  go_wp2_with fail
  refine KX.out.mono ?_
  rintro e w7 ⟨rfl, L70⟩
  have L7 := Lib.hid L70
  clear KX L70
  have OK1 := Lib.hid (ov1.ok (ok17_rec (lk0_ok HR.out)))
  clear ov1
  have KG := Lib.hid (L7.out.got (by show 0 ≤ 65536; omega))
  rw [show (lk1 R).gh = 64 from rfl, show gotL17 (lk1 R) = [] from rfl] at KG
  go_wp2_with fail
  refine KG.out.mono ?_
  rintro e w8 ⟨A8, c8, rfl, -, b8⟩
  have L8 := Lib.hid (L7.out.quiet b8)
  clear KG b8 L7
  have KW := Lib.hid L8.out.words
  go_wp2_with fail
  refine KW.out.mono ?_
  rintro e w9 ⟨A9, c9, rfl, H9, b9⟩
  have L9 := Lib.hid (L8.out.quiet b9)
  have HH9 := Lib.hid H9
  clear H9 b9 KW L8
  go_wp2_with fail
  have he3 := Row.new w9 3 #[.int .i64 0, .int .i64 ep, .int .i64 0]
  have ba := below_al w9 (.cells #[.int .i64 0, .int .i64 ep, .int .i64 0] 3)
  refine (ofWords14_any (fun _ => True) (fun _ => True) V0 [0, ep, 0] _ _ _ (HH9.out.below ba) (Lies.of_row he3 trivial 3) (by have := HV0.out.1; have := HN.out; omega) (by simp)).mono ?_
  rintro e w10 ⟨p9, a9, b9, rfl, rp, ha, hp, hb9⟩
  have e9 : mod14 [0, ep, 0] = [0, ep, 0] := by have := HM.out.1; simp [mod14]; omega
  rw [e9] at rp
  obtain ⟨V1, hV1⟩ : ∃ V1, mod14 V0 = V1 := ⟨_, rfl⟩
  rw [hV1] at rp
  have HV1 : Hid (V1.length = N ∧ (∀ i, nth14 V1 i = if i = 2 then 1 else 0)) := Lib.hid (by
    rw [← hV1]
    refine ⟨by rw [mod14_len]; exact HV0.out.1, fun i => ?_⟩
    rw [nth17_mod, HV0.out.2]
    split <;> rfl)
  have L10 : Hid (Lj17 w w10 g p9 (lk1 R) V1 [0, ep, 0] [] (R : Int)) := Lib.hid (L9.out.again (below_on ba hb9) rp (fun x hx => by
    have hab := rp.ne
    have := ba.size
    rcases hx with hx | rfl
    · rcases hx with rfl | rfl | hx
      · omega
      · omega
      · cases hx
    · omega))
  clear he3 ba rp ha hp hb9 e9 L9 HH9 hV1 HV0
  unfold ptr
  have KS := Lib.hid (L10.out.release 64)
  rw [(lk_rel HR.out).1] at KS
  clear L10
  go_wp2_with fail
  refine KS.out.mono ?_
  rintro e w11 ⟨rfl, L11⟩
  clear KS
  have ov2 := lk_call2 (e := ep) (V := V1) (K := []) HR.out (ok17_rel OK1.out 64) (by have := HM.out.1; omega) (by have := HM.out.1; omega)
  have KX := Lib.hid (L11.run HT.out ov2 (by rw [(lk_rel HR.out).2]; show 14 ≤ 100; omega))
  unfold face14 at KX
  clear L11
  go_wp2_with fail
  refine KX.out.mono ?_
  rintro e w12 ⟨rfl, L120⟩
  have L12 := Lib.hid L120
  clear KX L120
  have OK2 := Lib.hid (ov2.ok (ok17_rel OK1.out 64))
  clear ov2
  obtain ⟨V2, hV2⟩ : ∃ V2, put14 (put14 V1 3 0) 1 ep = V2 := ⟨_, rfl⟩
  rw [hV2] at L12
  have HV2 : Hid (V2.length = N ∧ nth14 V2 3 = 0 ∧ nth14 V2 1 = ep ∧ nth14 V2 2 = 1 ∧ nth14 V2 4 = 0 ∧ ∀ i, 5 ≤ i → nth14 V2 i = 0) := Lib.hid (by
    have h := HV1.out
    have hN := HN.out
    have ip : ∀ (W : List Int) i x a, in14 (put14 W i x) a = in14 W a := fun W i x a => by simp [in14, put14_len]
    rw [← hV2]
    refine ⟨by rw [put14_len, put14_len, h.1], ?_, ?_, ?_, ?_, fun i hi => ?_⟩
    · rw [nth17_put, if_neg (fun h => by have := h.1; omega), nth17_put, if_pos ⟨rfl, by simp [in14]; omega⟩]
    · rw [nth17_put, if_pos ⟨rfl, by rw [ip]; simp [in14]; omega⟩]
    · rw [nth17_put, if_neg (fun h => by have := h.1; omega), nth17_put, if_neg (fun h => by have := h.1; omega), h.2, if_pos rfl]
    · rw [nth17_put, if_neg (fun h => by have := h.1; omega), nth17_put, if_neg (fun h => by have := h.1; omega), h.2, if_neg (by omega)]
    · rw [nth17_put, if_neg (fun h => by have := h.1; omega), nth17_put, if_neg (fun h => by have := h.1; omega), h.2, if_neg (by omega)])
  clear hV2 HV1
  have KK := Lib.hid L12.out.linked
  rw [show (lk2 R ep).linked = false from rfl] at KK
  go_wp2_with fail
  refine KK.out.mono ?_
  rintro e w' ⟨rfl, rfl⟩
  clear KK
  have KH := Lib.hid L12.out.held
  rw [show hs17 (lk2 R ep) = [] from tb17_off (by have := HR.out.bd; omega) _] at KH
  go_wp2_with fail
  refine KH.out.mono ?_
  rintro e w13 ⟨A13, c13, rfl, -, b13⟩
  have L13 := Lib.hid (L12.out.quiet b13)
  clear KH b13 L12
  have KS := Lib.hid (L13.out.release 64)
  rw [(lk_again HR.out).1, (lk_again HR.out).2] at KS
  clear L13
  go_wp2_with fail
  refine KS.out.mono ?_
  rintro e w14 ⟨rfl, L140⟩
  have L14 := Lib.hid L140
  clear KS L140
  have KA := Lib.hid (L14.out.at_ 4 (by omega))
  rw [at_lj R 4 3 (by omega) rfl] at KA
  go_wp2_with fail
  refine KA.out.mono ?_
  rintro e w' ⟨rfl, rfl⟩
  clear KA
  have KL := Lib.hid (L14.out.load 3)
  rw [HV2.out.2.1] at KL
  go_wp2_with fail
  refine KL.out.mono ?_
  rintro e w' ⟨rfl, rfl⟩
  clear KL
  have KA := Lib.hid (L14.out.at_ 2 (by omega))
  rw [at_lj R 2 1 (by omega) rfl] at KA
  go_wp2_with fail
  refine KA.out.mono ?_
  rintro e w' ⟨rfl, rfl⟩
  clear KA
  have KL := Lib.hid (L14.out.load 1)
  rw [HV2.out.2.2.1] at KL
  go_wp2_with fail
  refine KL.out.mono ?_
  rintro e w' ⟨rfl, rfl⟩
  clear KL
  have KA := Lib.hid (L14.out.at_ 1 (by omega))
  rw [at_lj R 1 0 (by omega) rfl] at KA
  go_wp2_with fail
  refine KA.out.mono ?_
  rintro e w' ⟨rfl, rfl⟩
  clear KA
  have KL := Lib.hid (L14.out.store 0 mk)
  go_wp2_with fail
  refine KL.out.mono ?_
  rintro e w15 ⟨rfl, L150⟩
  have L15 := Lib.hid L150
  clear KL L150 L14
  have hmk2 : mk % 65536 = mk := by have := HM.out; omega
  rw [hmk2] at L15
  obtain ⟨V3, hV3⟩ : ∃ V3, put14 V2 0 mk = V3 := ⟨_, rfl⟩
  rw [hV3] at L15
  have HV3 : Hid (V3.length = N ∧ nth14 V3 0 = mk ∧ nth14 V3 2 = 1 ∧ nth14 V3 4 = 0 ∧ ∀ i, 5 ≤ i → nth14 V3 i = 0) := Lib.hid (by
    have h := HV2.out
    have hN := HN.out
    rw [← hV3]
    refine ⟨by rw [put14_len, h.1], ?_, ?_, ?_, fun i hi => ?_⟩
    · rw [nth17_put, if_pos ⟨rfl, by simp [in14]; omega⟩]
    · rw [nth17_put, if_neg (fun h => by have := h.1; omega)]; exact h.2.2.2.1
    · rw [nth17_put, if_neg (fun h => by have := h.1; omega)]; exact h.2.2.2.2.1
    · rw [nth17_put, if_neg (fun h => by have := h.1; omega)]; exact h.2.2.2.2.2 i hi)
  clear hmk2 hV3 HV2
  have KS := Lib.hid L15.out.recv
  rw [(lk_rec (G := lk2 R ep) rfl).2] at KS
  clear L15
  go_wp2_with fail
  refine KS.out.mono ?_
  rintro e w16 ⟨rfl, L16⟩
  clear KS
  have ov3 := lk_call3 (e := ep) (V := V3) (K := []) OK2.out (by have := HM.out.1; omega) HM.out.2.2 HV3.out.2.1
  have KX := Lib.hid (L16.run HT.out ov3 (by rw [(lk_rec (G := lk2 R ep) rfl).1]; show 14 ≤ 100; omega))
  unfold face14 at KX
  clear L16
  go_wp2_with fail
  refine KX.out.mono ?_
  rintro e w17 ⟨rfl, L170⟩
  have L17 := Lib.hid L170
  clear KX L170
  clear ov3
  have KA := Lib.hid (L17.out.at_ 1 (by omega))
  rw [at_lj R 1 0 (by omega) rfl] at KA
  go_wp2_with fail
  refine KA.out.mono ?_
  rintro e w' ⟨rfl, rfl⟩
  clear KA
  have KL := Lib.hid (L17.out.store 0 ep)
  go_wp2_with fail
  refine KL.out.mono ?_
  rintro e w18 ⟨rfl, L180⟩
  have L18 := Lib.hid L180
  clear KL L180 L17
  have hep2 : ep % 65536 = ep := by have := HM.out; omega
  rw [hep2] at L18
  obtain ⟨V4, hV4⟩ : ∃ V4, put14 V3 0 ep = V4 := ⟨_, rfl⟩
  rw [hV4] at L18
  have HV4 : Hid (nth14 V4 0 = ep ∧ nth14 V4 2 = 1 ∧ nth14 V4 4 = 0 ∧ ∀ i, 5 ≤ i → nth14 V4 i = 0) := Lib.hid (by
    have h := HV3.out
    have hN := HN.out
    rw [← hV4]
    refine ⟨?_, ?_, ?_, fun i hi => ?_⟩
    · rw [nth17_put, if_pos ⟨rfl, by simp [in14]; omega⟩]
    · rw [nth17_put, if_neg (fun h => by have := h.1; omega)]; exact h.2.2.1
    · rw [nth17_put, if_neg (fun h => by have := h.1; omega)]; exact h.2.2.2.1
    · rw [nth17_put, if_neg (fun h => by have := h.1; omega)]; exact h.2.2.2.2 i hi)
  clear hep2 hV4 HV3
  have KS := Lib.hid L18.out.recv
  rw [(lk_rec (G := lk2 R ep) rfl).2] at KS
  clear L18
  go_wp2_with fail
  refine KS.out.mono ?_
  rintro e w19 ⟨rfl, L19⟩
  clear KS
  have ov4 := lk_call4 (e := ep) (V := V4) (K := []) HR.out OK2.out (by have := HM.out.1; omega) HV4.out.1 HV4.out.2.1 HV4.out.2.2.1 HV4.out.2.2.2
  have KX := Lib.hid (L19.run HT.out ov4 (by rw [(lk_rec (G := lk2 R ep) rfl).1]; show 14 ≤ 100; omega))
  unfold face14 at KX
  clear L19
  go_wp2_with fail
  refine KX.out.mono ?_
  rintro e w20 ⟨rfl, L200⟩
  have L20 := Lib.hid L200
  clear KX L200
  clear ov4 HV4
  have KG := Lib.hid (L20.out.got (by show 0 ≤ 65536; omega))
  rw [show (lk4 R ep).gh = 128 from rfl, show gotL17 (lk4 R ep) = [] from rfl] at KG
  go_wp2_with fail
  refine KG.out.mono ?_
  rintro e w21 ⟨A21, c21, rfl, -, b21⟩
  have L21 := Lib.hid (L20.out.quiet b21)
  clear KG b21 L20
  have KT := Lib.hid (L21.out.slot 128)
  rw [(lk_last HR.out).1, (lk_last HR.out).2.1] at KT
  go_wp2_with fail
  refine KT.out.mono ?_
  rintro e w' ⟨rfl, rfl⟩
  clear KT
  have KH := Lib.hid L21.out.held
  rw [(lk_last HR.out).2.2] at KH
  go_wp2_with fail
  refine KH.out.mono ?_
  rintro e w22 ⟨A22, c22, rfl, H22, b22⟩
  have L22 := Lib.hid (L21.out.quiet b22)
  have HH22 := Lib.hid H22
  clear b22 KH L21 H22
  go_wp2_with fail
  have he4 := Row.new w22 3 #[.int .i64 0]
  have ba4 := below_al w22 (.cells #[.int .i64 0] 3)
  refine (rsame_any (fun _ => True) (fun _ => True) _ _ [0] [0] _ (HH22.out.below ba4) (Lies.of_row he4 trivial 1) (by simp) (by simp)).mono ?_
  rw [show decide (([0] : List Int) = [0]) = true by decide]
  rintro e w23 ⟨rfl, b23⟩
  have L23 := Lib.hid ((L22.out.quiet ba4).quiet b23)
  clear he4 ba4 b23 HH22 L22
  have KZ2 := Lib.hid (alive17 w23 (HT.out.below L23.out.below))
  go_wp2_with fail
  refine KZ2.out.mono ?_
  rintro e w25 ⟨rfl, b25⟩
  have B25 := Lib.hid (below_on L23.out.below b25)
  clear b25
  go_wp2
  go_ret
  exact ⟨rfl, B25.out⟩

#print axioms links17_yes
end Go.Proofs.YtgdbaaoifnedbaaDoor
