/-
  Layer 16 (giver): the walk of the law GiverLinks.
  Conditions: those that each theorem states.
-/
import Derived.Test.YtbahnnlenaoomaaDoorGv23
import Derived.Deep.RegionHeld3
namespace Go.Proofs.YtbahnnlenaoomaaDoor
open Go.ChangeShapes Go.WideShapes Go.ChangeAt Go.RowKit

theorem nth14_mod (V : List Int) (i : Int) : nth14 (mod14 V) i = nth14 V i % 65536 := by
  unfold nth14
  have h : in14 (mod14 V) i = in14 V i := by simp [in14, mod14_len]
  rw [h]
  split
  · simp [mod14, List.getD]
    cases V[i.toNat]? <;> simp
  · rfl

/-- Another port, of new blocks alone. -/
theorem Li16.again {w wr w1 : World} {g p p' a b : Nat} {G : Gv} {k : Value} {V E K V' E' K' : List Int} {ring : Int} (L : Li16 w wr g p G V E K ring) (hb : Below wr.heap.size wr w1) (rp : PlainAt w1 p' a b k V' E' K') (hn : ∀ x, own14p p' a k x ∨ x = b → wr.heap.size ≤ x) : Li16 w w1 g p' G V' E' K' ring := by
  have hlt := L.box.lt
  exact ⟨L.box.below hb, (sysP16_of L.sys.gis hb rp hn).weak (fun x _ h => by rcases h with h | h <;> omega), below_on L.below hb⟩

theorem at_li (R : Nat) (f v : Int) (h : 1 ≤ f ∧ f ≤ 4) (e : f - 1 = v) : atV13 0 (R : Int) f 0 0 = v := (li_ad (li0 R) rfl f h).trans e
theorem at_li5 (R : Nat) (h : 1 ≤ R) : atV13 0 (R : Int) 5 0 0 = 4 := li_ad5 (li0 R) rfl h

set_option maxRecDepth 100000 in
set_option maxHeartbeats 8000000 in
theorem links16_yes (R : Nat) (v : Value) (l : List Int) (ep mk : Int) (w : World) (hR : okRing (R : Int)) (h16 : R ≤ 16) (hT : TabAt w) (hv : Lies w (fun _ => True) v (ints l)) (hcap : CapOk v) (hl : l.length ≤ 8) (he1 : 1 ≤ ep) (he2 : ep ≤ 65535) (hm1 : 0 ≤ mk) (hm2 : mk ≤ 65535) (hme : mk ≠ ep) :
    Calls Tryd.prog 7 #[.int .i64 (R : Int), v, .int .i64 ep, .int .i64 mk] w fun e w' => e = .returned (.bool true) ∧ Below w.heap.size w w' := by
  obtain ⟨A, n, c, rfl, HN, HV⟩ := lies_open hv
  have hn8 : (n : Int) ≤ 8 := by have := HN.out; omega
  have n8 : decide ((8 : Int) < (n : Int)) = false := by simp; omega
  have n16 : decide ((16 : Int) < (R : Int)) = false := by simp; omega
  have g1 : decide (ep < 1) = false := by simp; omega
  have g2 : decide ((65535 : Int) < ep) = false := by simp; omega
  have g3 : decide (mk < 0) = false := by simp; omega
  have g4 : decide ((65535 : Int) < mk) = false := by simp; omega
  have g5 : (mk == ep) = false := by simpa using hme
  have KR := Lib.hid (fun W => rring13_any (R : Int) W)
  have e0 : decide (okRing (R : Int)) = true := decide_eq_true hR
  rw [e0] at KR
  have HT := Lib.hid hT
  have KM := Lib.hid (fun W => made16_yes (B := 0) (r := R) (self := 2) (peer := 1) (own := 0) ⟨hR, by omega, by omega, by omega, by omega, by omega⟩ W)
  unfold baseV at KM
  obtain ⟨N, hN⟩ : ∃ N, 4 + 11 * R = N := ⟨_, rfl⟩
  have hN2 : N ≤ 2000 := by omega
  have KZ := Lib.hid (fun W => size13_any (R : Int) W)
  have ez : sizeP (R : Int) = (N : Int) := by unfold sizeP; rw [if_pos hR]; omega
  rw [ez] at KZ
  have hmk : ∀ W : World, (Instr.makeSlice 33 (.int .i64 (N : Int)) (.int .i64 (N : Int))).run Tryd.prog W = .ok (.slice (some ⟨W.heap.size, 0, none⟩) N N) (W.alloc (.cells (madeCells #[.int .i64 0] N) 3)) := fun W => run_make_row' (P := Tryd.prog) 33 3 (.int .i64 0) 8 Tryd.underlying33 int_info rfl .i64 .i64 N (by omega) (by omega) W
  have HLV := Lib.hid hv
  have HM := Lib.hid (And.intro (And.intro he1 he2) (And.intro (And.intro hm1 hm2) hme))
  have hR2 : R ≤ 64 := by omega
  have HR := Lib.hid hR
  have HC := Lib.hid hcap
  have r0 := Row.new w 3 #[.int .i64 (R : Int)]
  have B0 := Lib.hid (below_al w (.cells #[.int .i64 (R : Int)] 3))
  have R0 := Lib.hid r0
  have q0 := r0.cell 0
  simp only [List.getElem?_cons_zero] at q0
  clear hv hT hR hcap r0 e0 ez he1 he2 hm1 hm2 hme HV
  go_enter Tryd.func7, Tryd.ntmps7
  go_wp2_with (go_at_call 32; refine (KR.out _).mono ?_; rintro e w' ⟨rfl, rfl⟩)
  refine (KM.out _).mono ?_
  rintro e w1 ⟨g, rfl, s1, b1⟩
  have S1 := Lib.hid s1
  have B1 := Lib.hid (below_on B0.out b1)
  have R1 := Lib.hid (R0.out.below b1)
  have q1 := R1.out.cell 0
  simp only [List.getElem?_cons_zero] at q1
  clear s1 b1 KM KR R0
  unfold ptr
  go_wp2_with fail
  refine (KZ.out _).mono ?_
  rintro e w' ⟨rfl, rfl⟩
  go_wp2_with fail
  have hz := Row.new w1 3 (madeCells #[Value.int .i64 0] N)
  rw [ints_zeros] at hz
  have hz2 := hz.below (below_al (w1.alloc (.cells (madeCells #[Value.int .i64 0] N) 3)) (.cells #[.int .i64 0, .int .i64 0, .int .i64 0] 3))
  have he2 := Row.new (w1.alloc (.cells (madeCells #[Value.int .i64 0] N) 3)) 3 #[.int .i64 0, .int .i64 0, .int .i64 0]
  rw [size_al] at he2
  have hb3 := below_on (below_al w1 (.cells (madeCells #[Value.int .i64 0] N) 3)) (below_al (w1.alloc (.cells (madeCells #[Value.int .i64 0] N) 3)) (.cells #[.int .i64 0, .int .i64 0, .int .i64 0] 3))
  have hlz := Lies.of_row (P := fun _ => True) hz2 trivial N
  rw [show (ints (List.replicate N (0 : Int))).length = N by simp [ints]] at hlz
  refine (ofWords14_any (fun _ => True) (fun _ => True) (List.replicate N 0) [0, 0, 0] _ _ _ hlz (Lies.of_row he2 trivial 3) (by simp; omega) (by simp)).mono ?_
  rintro e w4 ⟨p, a, b, rfl, rp, ha, hp, hb4⟩
  have e1 : mod14 (List.replicate N 0) = List.replicate N 0 := by simp [mod14]
  rw [e1, show mod14 [0, 0, 0] = [0, 0, 0] by decide] at rp
  have L4 : Hid (Li16 w w4 g p (li0 R) (List.replicate N 0) [0, 0, 0] [] (R : Int)) := Lib.hid (by
    have hab := rp.ne
    have hs3 := hb3.size
    have hsw := R1.out.lt
    have hsys := sysP16_of S1.out (below_on hb3 hb4) rp (fun x hx => by
      rcases hx with hx | rfl
      · rcases hx with rfl | rfl | hx
        · omega
        · omega
        · cases hx
      · omega)
    refine ⟨(R1.out.below hb3).below hb4, hsys.weak (fun x _ h => ?_), below_on (below_on B1.out hb3) hb4⟩
    rcases h with h | h
    · simp at h; omega
    · omega)
  clear hlz hz hz2 he2 hb3 hb4 rp ha hp e1 hmk S1 R1 B1 q0 q1 KZ
  unfold ptr
  have KS := Lib.hid (L4.out.send HLV.out HC.out)
  by_cases hs : sendE16 (li0 R) l = 0
  · rw [hs] at KS
    have HS := Lib.hid hs
    clear hs L4
    go_wp2_with fail
    refine KS.out.mono ?_
    rintro e w5 ⟨rfl, L5⟩
    obtain ⟨V1, ov1, hV1, hz1⟩ := li_call1 HR.out HS.out
    have hpot : pot16 (sendG16 (li0 R) l) ≤ 100 := by have h := (pot16_send (li0_ok HR.out) HS.out).1; have : (li0 R).R = R := rfl; omega
    rw [hN] at ov1 hV1
    have K6 := Lib.hid (L5.run HT.out ov1 hpot (by simp))
    have OK1 := Lib.hid (ov1.ok (ok16_send (li0_ok HR.out) l))
    have HV1 := Lib.hid (And.intro hV1 hz1)
    clear L5 KS ov1 hpot hV1 hz1
    unfold face14 at K6
    go_wp2_with fail
    refine K6.out.mono ?_
    rintro e w6 ⟨rfl, L6⟩
    have K7 := Lib.hid (L6.out (by simp [li1]))
    have L6H := Lib.hid L6
    rw [show (li1 R).out.length = 1 from rfl] at K7
    clear K6 L6
    go_wp2_with fail
    refine K7.out.mono ?_
    rintro e w7 ⟨A7, c7, rfl, -, b7⟩
    have L7 := Lib.hid (L6H.out.quiet b7)
    clear b7 K7 L6H
    go_wp2_with fail
    have K8 := Lib.hid L7.out.words
    refine K8.out.mono ?_
    rintro e w8 ⟨A8, c8, rfl, H8, b8⟩
    have L8 := Lib.hid (L7.out.quiet b8)
    have H8' := Lib.hid H8
    clear H8 b8 K8 L7
    go_wp2_with fail
    have he3 := Row.new w8 3 #[.int .i64 0, .int .i64 ep, .int .i64 0]
    have ba := below_al w8 (.cells #[.int .i64 0, .int .i64 ep, .int .i64 0] 3)
    refine (ofWords14_any (fun _ => True) (fun _ => True) V1 [0, ep, 0] _ _ _ (H8'.out.below ba) (Lies.of_row he3 trivial 3) (by have := HV1.out.1; omega) (by simp)).mono ?_
    rintro e w9 ⟨p9, a9, b9, rfl, rp, ha, hp, hb9⟩
    have e9 : mod14 [0, ep, 0] = [0, ep, 0] := by have := HM.out.1; simp [mod14]; omega
    rw [e9] at rp
    have L9 : Hid (Li16 w w9 g p9 (li1 R) (mod14 V1) [0, ep, 0] [] (R : Int)) := Lib.hid (L8.out.again (below_on ba hb9) rp (fun x hx => by
      have hab := rp.ne
      have := ba.size
      rcases hx with hx | rfl
      · rcases hx with rfl | rfl | hx
        · omega
        · omega
        · cases hx
      · omega))
    clear he3 ba rp ha hp hb9 e9 L8 H8'
    unfold ptr
    have K10 := Lib.hid (L9.out.send HLV.out HC.out)
    rw [(sendE16_idle (G := li1 R) (G' := li0 R) rfl rfl l).trans HS.out] at K10
    clear L9
    go_wp2_with fail
    refine K10.out.mono ?_
    rintro e w10 ⟨rfl, L10⟩
    obtain ⟨V2, ov2, hV2, h22, h20, h23⟩ := li_call2 (e := ep) OK1.out HS.out (by have := HM.out.1; omega) (by have := HM.out.1; omega) (mod14 V1) (by rw [mod14_len, hN]; exact HV1.out.1) (by rw [nth14_mod, HV1.out.2]; rfl)
    have hpot : pot16 (sendG16 (li1 R) l) ≤ 100 := by have h := (pot16_send OK1.out ((sendE16_idle (G := li1 R) (G' := li0 R) rfl rfl l).trans HS.out)).1; have : (li1 R).R = R := rfl; omega
    have K11 := Lib.hid (L10.run HT.out ov2 hpot (by simp))
    have OK2 := Lib.hid (ov2.ok (ok16_send OK1.out l))
    have HV2 := Lib.hid (And.intro hV2 (And.intro h22 (And.intro h20 h23)))
    clear L10 K10 ov2 hpot hV2 h22 h20 h23
    unfold face14 at K11
    go_wp2_with fail
    refine K11.out.mono ?_
    rintro e w11 ⟨rfl, L11⟩
    have K12 := Lib.hid L11.linked
    rw [show (li2 R ep).linked = false from rfl] at K12
    have K13 := Lib.hid (L11.out (by simp [li2, li0, new16]))
    rw [show (li2 R ep).out.length = 0 from rfl] at K13
    have L11H := Lib.hid L11
    clear L11 K11
    go_wp2_with fail
    refine K12.out.mono ?_
    rintro e w' ⟨rfl, rfl⟩
    clear K12
    go_wp2_with fail
    refine K13.out.mono ?_
    rintro e w13 ⟨A13, c13, rfl, -, b13⟩
    have L13 := Lib.hid (L11H.out.quiet b13)
    clear b13 K13 L11H
    have KA := Lib.hid (L13.out.at_ 3 (by omega))
    rw [at_li R 3 2 (by omega) rfl] at KA
    go_wp2_with fail
    refine KA.out.mono ?_
    rintro e w' ⟨rfl, rfl⟩
    clear KA
    have KL := Lib.hid (L13.out.load 2)
    rw [HV2.out.2.1] at KL
    go_wp2_with fail
    refine KL.out.mono ?_
    rintro e w' ⟨rfl, rfl⟩
    clear KL
    have KA := Lib.hid (L13.out.at_ 1 (by omega))
    rw [at_li R 1 0 (by omega) rfl] at KA
    go_wp2_with fail
    refine KA.out.mono ?_
    rintro e w' ⟨rfl, rfl⟩
    clear KA
    have KL := Lib.hid (L13.out.load 0)
    rw [HV2.out.2.2.1] at KL
    go_wp2_with fail
    refine KL.out.mono ?_
    rintro e w' ⟨rfl, rfl⟩
    clear KL
    have KA := Lib.hid (L13.out.at_ 2 (by omega))
    rw [at_li R 2 1 (by omega) rfl] at KA
    go_wp2_with fail
    refine KA.out.mono ?_
    rintro e w' ⟨rfl, rfl⟩
    clear KA
    have KL := Lib.hid (L13.out.store 1 mk)
    go_wp2_with fail
    refine KL.out.mono ?_
    rintro e w15 ⟨rfl, L150⟩
    have L15 := Lib.hid L150
    clear KL L150 L13
    have hmk2 : mk % 65536 = mk := by have := HM.out; omega
    rw [hmk2] at L15
    obtain ⟨V3, hV3⟩ : ∃ V3, put14 V2 1 mk = V3 := ⟨_, rfl⟩
    rw [hV3] at L15
    have HV3 : Hid (V3.length = N ∧ nth14 V3 1 = mk ∧ nth14 V3 2 = 0 ∧ nth14 V3 3 = 0) := Lib.hid (by
      have h := HV2.out
      rw [← hV3]
      refine ⟨by rw [put14_len, h.1, hN], ?_, ?_, ?_⟩
      · rw [nth14_put, if_pos ⟨rfl, by simp [in14]; omega⟩]
      · rw [nth14_put, if_neg (fun h => by have := h.1; omega)]; exact h.2.1
      · rw [nth14_put, if_neg (fun h => by have := h.1; omega)]; exact h.2.2.2)
    clear hmk2 hV3 HV2
    have hpot : pot16 (sendG16 (li2 R ep) l) ≤ 100 := by have h := (pot16_send OK2.out ((sendE16_idle (G := li2 R ep) (G' := li0 R) rfl rfl l).trans HS.out)).1; have : (li2 R ep).R = R := rfl; omega
    have HPOT := Lib.hid hpot
    clear hpot
    have KS2 := Lib.hid (L15.out.send HLV.out HC.out)
    rw [(sendE16_idle (G := li2 R ep) (G' := li0 R) rfl rfl l).trans HS.out] at KS2
    clear L15
    go_wp2_with fail
    refine KS2.out.mono ?_
    rintro e w16 ⟨rfl, L16⟩
    clear KS2
    have ov3 := li_call3 (e := ep) OK2.out HS.out (by have := HM.out.1; omega) V3 HM.out.2.2 HV3.out.2.1
    have K17 := Lib.hid (L16.run HT.out ov3 HPOT.out (by simp))
    clear L16 ov3
    unfold face14 at K17
    go_wp2_with fail
    refine K17.out.mono ?_
    rintro e w17 ⟨rfl, L17'⟩
    have L17 := Lib.hid L17'
    clear L17' K17
    have KA := Lib.hid (L17.out.at_ 3 (by omega))
    rw [at_li R 3 2 (by omega) rfl] at KA
    go_wp2_with fail
    refine KA.out.mono ?_
    rintro e w' ⟨rfl, rfl⟩
    clear KA
    have KL := Lib.hid (L17.out.load 2)
    rw [HV3.out.2.2.1] at KL
    go_wp2_with fail
    refine KL.out.mono ?_
    rintro e w' ⟨rfl, rfl⟩
    clear KL
    have KA := Lib.hid (L17.out.at_ 2 (by omega))
    rw [at_li R 2 1 (by omega) rfl] at KA
    go_wp2_with fail
    refine KA.out.mono ?_
    rintro e w' ⟨rfl, rfl⟩
    clear KA
    have KL := Lib.hid (L17.out.store 1 ep)
    go_wp2_with fail
    refine KL.out.mono ?_
    rintro e w18 ⟨rfl, L180⟩
    have L18 := Lib.hid L180
    clear KL L180 L17
    have hep2 : ep % 65536 = ep := by have := HM.out; omega
    rw [hep2] at L18
    obtain ⟨V4, hV4⟩ : ∃ V4, put14 V3 1 ep = V4 := ⟨_, rfl⟩
    rw [hV4] at L18
    have HV4 : Hid (V4.length = 4 + 11 * R ∧ nth14 V4 1 = ep ∧ nth14 V4 3 = 0) := Lib.hid (by
      have h := HV3.out
      rw [← hV4]
      refine ⟨by rw [put14_len, h.1, hN], ?_, ?_⟩
      · rw [nth14_put, if_pos ⟨rfl, by simp [in14]; omega⟩]
      · rw [nth14_put, if_neg (fun h => by have := h.1; omega)]; exact h.2.2.2)
    clear hep2 hV4 HV3
    have KS2 := Lib.hid (L18.out.send HLV.out HC.out)
    rw [(sendE16_idle (G := li2 R ep) (G' := li0 R) rfl rfl l).trans HS.out] at KS2
    clear L18
    go_wp2_with fail
    refine KS2.out.mono ?_
    rintro e w19 ⟨rfl, L19⟩
    clear KS2
    obtain ⟨V5, ov5, hV5, h52, h54⟩ := li_call4 (e := ep) OK2.out HS.out (by have := HM.out.1; omega) V4 HV4.out.1 HV4.out.2.1 HV4.out.2.2
    have K20 := Lib.hid (L19.run HT.out ov5 HPOT.out (by simp))
    have HV5 := Lib.hid (And.intro h52 h54)
    clear L19 ov5 hV5 h52 h54 HV4
    unfold face14 at K20
    go_wp2_with fail
    refine K20.out.mono ?_
    rintro e w20 ⟨rfl, L20'⟩
    have L20 := Lib.hid L20'
    have K21 := Lib.hid L20'.linked
    rw [show (li4 R ep).linked = true from rfl] at K21
    have K22 := Lib.hid (L20'.out (by simp [li4]))
    rw [show (li4 R ep).out = [0] from rfl] at K22
    clear L20' K20
    go_wp2_with fail
    refine K21.out.mono ?_
    rintro e w' ⟨rfl, rfl⟩
    clear K21
    go_wp2_with fail
    refine K22.out.mono ?_
    rintro e w22 ⟨A22, c22, rfl, H22, b22⟩
    have L22 := Lib.hid (L20.out.quiet b22)
    have HH22 := Lib.hid H22
    clear b22 K22 L20 H22
    go_wp2_with fail
    have he4 := Row.new w22 3 #[.int .i64 0]
    have ba4 := below_al w22 (.cells #[.int .i64 0] 3)
    refine (rsame_any (fun _ => True) (fun _ => True) _ _ [0] [0] _ (HH22.out.below ba4) (Lies.of_row he4 trivial 1) (by simp) (by simp)).mono ?_
    rw [show decide (([0] : List Int) = [0]) = true by decide]
    rintro e w23 ⟨rfl, b23⟩
    have L23 := Lib.hid ((L22.out.quiet ba4).quiet b23)
    clear he4 ba4 b23 HH22 L22
    have KA := Lib.hid (L23.out.at_ 3 (by omega))
    rw [at_li R 3 2 (by omega) rfl] at KA
    go_wp2_with fail
    refine KA.out.mono ?_
    rintro e w' ⟨rfl, rfl⟩
    clear KA
    have KL := Lib.hid (L23.out.load 2)
    rw [HV5.out.1] at KL
    go_wp2_with fail
    refine KL.out.mono ?_
    rintro e w' ⟨rfl, rfl⟩
    clear KL
    have KA := Lib.hid (L23.out.at_ 5 (by omega))
    rw [at_li5 R (by have := HR.out.bd; omega)] at KA
    go_wp2_with fail
    refine KA.out.mono ?_
    rintro e w' ⟨rfl, rfl⟩
    clear KA
    have KL := Lib.hid (L23.out.load 4)
    rw [HV5.out.2] at KL
    go_wp2_with fail
    refine KL.out.mono ?_
    rintro e w' ⟨rfl, rfl⟩
    clear KL
    have K24 := Lib.hid (L23.out.kicks (by simp))
    go_wp2_with fail
    refine K24.out.mono ?_
    rintro e w24 ⟨A24, c24, rfl, b24⟩
    have L24 := Lib.hid (L23.out.quiet b24)
    have KZ2 := Lib.hid (alive16 w24 (HT.out.below L24.out.below))
    clear b24 K24 L23
    go_wp2_with fail
    refine KZ2.out.mono ?_
    rintro e w25 ⟨rfl, b25⟩
    have B25 := Lib.hid (below_on L24.out.below b25)
    clear b25
    go_wp2
    go_ret
    exact ⟨rfl, B25.out⟩
  · have hb : (sendE16 (li0 R) l != 0) = true := by simpa using hs
    have hG : sendG16 (li0 R) l = li0 R := by unfold sendG16; rw [if_neg hs]
    rw [hG] at KS
    have HB := Lib.hid hb
    clear hs hG L4 hb
    go_wp2_with fail
    refine KS.out.mono ?_
    rintro e w5 ⟨rfl, L5⟩
    have hb := HB.out
    have K6 := Lib.hid L5.busy
    rw [show (((li0 R).st : Int) != 0) = false from rfl] at K6
    have L5H := Lib.hid L5
    clear L5 KS
    go_wp2_with fail
    refine K6.out.mono ?_
    rintro e w' ⟨rfl, rfl⟩
    clear K6
    have KZ2 := Lib.hid (alive16 w5 (HT.out.below L5H.out.below))
    go_wp2_with fail
    refine KZ2.out.mono ?_
    rintro e w25 ⟨rfl, b25⟩
    have B25 := Lib.hid (below_on L5H.out.below b25)
    clear b25
    go_wp2
    go_ret
    exact ⟨rfl, B25.out⟩

#print axioms links16_yes
end Go.Proofs.YtbahnnlenaoomaaDoor
