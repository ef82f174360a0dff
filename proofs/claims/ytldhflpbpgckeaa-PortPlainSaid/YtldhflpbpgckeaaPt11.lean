/-
  Layer 14 (port): the walk of the law PortPlain.
  Conditions: those that each theorem states.
-/
import Derived.Test.YtldhflpbpgckeaaPt10
import Derived.Test.YtldhflpbpgckeaaArgs2
namespace Go.Proofs.Ytldhflpbpgckeaa
open Go.ChangeShapes Go.WideShapes Go.ChangeAt Go.RowKit

/-- The numbers of the law's loop. -/
structure Nm14 (V K : List Int) (T : List Tch) (c n : Nat) : Prop where
  vl : V.length ≤ 100
  kl : K.length ≤ c
  tl : T.length ≤ c
  tn : T.length = n
  bd : ∀ x ∈ V, 0 ≤ x ∧ x ≤ 65535

theorem Nm14.more {V K : List Int} {T : List Tch} {c n n' : Nat} (h : Nm14 V K T c n) (E : List Int) (κ i u : Int) (hn : (T ++ dT14 V E κ i u).length = n') : Nm14 (dV14 V κ i u) (dK14 K κ i) (T ++ dT14 V E κ i u) (c + 1) n' :=
  ⟨by rw [dV14_len]; exact h.vl, Nat.le_trans (dK14_len K κ i) (by have := h.kl; omega), by rw [List.length_append]; have := dT14_len V E κ i u; have := h.tl; omega, hn, dV14_bd h.bd κ i u⟩

/-- What Words and Kicks leave, seen from an earlier world. -/
def ListP14 (l : List Int) (w4 : World) (e : Ending) (w' : World) : Prop := ∃ v, e = .returned v ∧ Hid (Lies w' (fun _ => True) v (ints l)) ∧ Below w4.heap.size w4 w'

theorem words_since {p a b : Nat} {k : Value} {V E K : List Int} {w4 : World} (r : PlainAt w4 p a b k V E K) (W : World) (hb : Below w4.heap.size w4 W) : Calls Try.prog 12 #[.pointer (some ⟨p, 0, none⟩)] W (ListP14 V w4) :=
  (words14_any W (r.below hb)).mono fun _ _ ⟨v, he, ho, hb'⟩ => ⟨v, he, (Lies.of_own ho).weak (fun _ _ _ => trivial), below_on hb hb'⟩

theorem kicks_since {p a b : Nat} {k : Value} {V E K : List Int} {w4 : World} (r : PlainAt w4 p a b k V E K) (hl : K.length ≤ 65536) (W : World) (hb : Below w4.heap.size w4 W) : Calls Try.prog 13 #[.pointer (some ⟨p, 0, none⟩)] W (ListP14 K w4) :=
  (kicks14_any W (r.below hb) hl).mono fun _ _ ⟨v, he, ho, hb'⟩ => ⟨v, he, (Lies.of_own ho).weak (fun _ _ _ => trivial), below_on hb hb'⟩

theorem same_since14 {P Q : Nat → Prop} {q : List Int} {v u : Value} {w4 W : World} (hv : Lies W P v (ints q)) (hu : Lies w4 Q u (ints q)) (hb : Below w4.heap.size w4 W) (hq : q.length ≤ 65536) :
    Calls Try.prog 11 #[v, u] W fun e w' => e = .returned (.bool true) ∧ Below w4.heap.size w4 w' :=
  (rsame_yes P Q v u q W hv (hu.below hb) hq).mono fun _ _ ⟨he, hb'⟩ => ⟨he, below_on hb hb'⟩

set_option maxRecDepth 100000 in
set_option maxHeartbeats 8000000 in
theorem portPlain_main (P Q : Nat → Prop) (vw ve vl : Value) (l1 l2 : List Int) (Rc : List (List Int)) (w : World) (h1 : Lies w P vw (ints l1)) (h2 : Lies w Q ve (ints l2)) (hR : Recs w 3 vl Rc) (hm1 : l1.length ≤ 100) (hm2 : l2.length ≤ 100) (hm3 : Rc.length ≤ 100) :
    Calls Try.prog 3 #[vw, ve, vl] w fun e w' => e = .returned (.bool true) ∧ Below w.heap.size w w' := by
  obtain ⟨i0, hi0, hz0, hz1, hz2⟩ := info_parts touch_info14
  have HR := Lib.hid hR
  have HL1 := Lib.hid h1
  have HL2 := Lib.hid h2
  obtain ⟨A, c, rfl, hA⟩ := hR
  clear hA
  obtain ⟨Aw, nw, cw, rfl, HNW, HW⟩ := lies_open h1
  obtain ⟨Ae, ne, ce, rfl, HNE, HE⟩ := lies_open h2
  obtain ⟨m, hm'⟩ : ∃ m, Rc.length = m := ⟨_, rfl⟩
  rw [hm'] at hm3 HR ⊢
  have HM := Lib.hid hm'; clear hm'
  have g1 : ¬ (100 < (nw : Int)) := by rw [← HNW.out]; omega
  have g2 : ¬ (100 < (ne : Int)) := by rw [← HNE.out]; omega
  have g3 : ¬ (100 < (m : Int)) := by omega
  have HM1 := Lib.hid hm1
  have HM2 := Lib.hid hm2
  clear h1 h2 hm1 hm2
  go_enter Try.func3, Try.ntmps3
  go_wp2_with fail
  refine (ofWords14_any P Q l1 l2 _ _ w HL1.out HL2.out (by have := HM1.out; omega) (by have := HM2.out; omega)).mono ?_
  rintro e w1 ⟨p, a, b, rfl, r1, ha, hp, hb1⟩
  unfold ptr
  go_wp2_with fail
  refine (traced14_any p w1).mono ?_
  rintro e w2 ⟨t, rfl, r2, ht, hb2⟩
  unfold ptr
  have b2 := below_on hb1 hb2
  go_wp2_with fail
  refine (rof14_any P Q l1 l2 _ _ w2 (HL1.out.below b2) (HL2.out.below b2) (by have := HM1.out; omega) (by have := HM2.out; omega)).mono ?_
  rintro e w3 ⟨B1, d1, e1, B2, d2, e2, rfl, r3, hb3⟩
  have hs1 := hb1.size
  have hs2 := hb2.size
  have hs3 := hb3.size
  have PT0 : PtAt w2 t p a b (.slice none 0 0) (.slice none 0 0) (mod14 l1) (mod14 l2) [] [] := ⟨r1.below hb2, r2⟩
  have hbA := below_al w3 (.cells #[.slice B1 d1 e1, .slice B2 d2 e2, .slice none 0 0] 30)
  have S0 : Lp14 w (w3.alloc (.cells #[.slice B1 d1 e1, .slice B2 d2 e2, .slice none 0 0] 30)) t p a b w3.heap.size (.slice none 0 0) (.slice none 0 0) (.slice none 0 0) (.slice B1 d1 e1) (.slice B2 d2 e2) (.slice none 0 0) (mod14 l1) (mod14 l2) [] [] (mod14 l1) [] [] :=
    ⟨(PT0.below hb3).below hbA, (r3.weak (fun g hg h => ⟨fun e => by have := PT0.lt g (.inl e); omega, by omega, by simp [Value.ownBlock]⟩)).below hbA, Row.new w3 30 #[_, _, _], World.ownsRow_nil _ _ _ _, below_on (below_on b2 hb3) hbA, by omega⟩
  have N0 : Nm14 (mod14 l1) [] [] 0 0 := ⟨by rw [mod14_len]; exact HM1.out, by simp, by simp, rfl, mod14_bd l1⟩
  have H0 := Lib.hid S0
  have HN0 := Lib.hid N0
  obtain ⟨R, hR0⟩ : ∃ R, w3.heap.size = R := ⟨_, rfl⟩
  rw [hR0] at H0
  clear S0 N0 r1 ha hp r2 ht r3 hs1 hs2 hs3 PT0 hbA hb1 hb2 hb3 b2
  go_wp2
  clear hR0
  obtain ⟨E, hE⟩ : ∃ E, mod14 l2 = E := ⟨_, rfl⟩
  rw [hE] at H0
  have hEl : E.length ≤ 100 := by rw [← hE, mod14_len]; exact HM2.out
  clear hE
  go_loopw [10, 44] (fun kv i wr => ∃ (c : Nat) (Ak : Option Addr) (nk ck : Nat) (k v : Value) (A1 A2 A3 : Option Addr) (n1 c1 n2 c2 n3 c3 : Nat) (V K : List Int) (T : List Tch), c ≤ m ∧ kv = .slice Ak nk ck ∧ i = .int .i64 c ∧ Hid (Lp14 w wr t p a b R k v (.slice Ak nk ck) (.slice A1 n1 c1) (.slice A2 n2 c2) (.slice A3 n3 c3) V E K T V K T) ∧ Hid (Nm14 V K T c nk)) (fun _ i _ => m - (intOf i).toNat)
  case atStart => exact ⟨0, _, _, _, _, _, _, _, _, _, _, _, _, _, _, _, _, _, Nat.zero_le _, rfl, rfl, H0, HN0⟩
  case round =>
    clear H0 HN0
    obtain ⟨j, Ak, nk, ck, k, v, A1, A2, A3, n1, c1, n2, c2, n3, c3, V, K, T, hj, rfl, rfl, S, N⟩ := hrel
    by_cases hlt : j < m
    · obtain ⟨ad, c', κ, i, u, hzs, hv', hz, z0, z1, z2, hadl⟩ := Recs.three HR.out S.out.below (by rw [HM.out]; exact hlt)
      rw [HM.out] at hv'
      injection hv' with hv' _ hv2
      subst hv' hv2
      clear hzs hz
      have B1 := below_al wr (.cells #[.int .i64 κ, .int .i64 i, .int .i64 u] 33)
      have S1 := Lib.hid (S.out.quiet B1)
      have O1 := Lib.hid (Row.new wr 33 #[.int .i64 κ, .int .i64 i, .int .i64 u])
      have hRl := S.out.row.lt
      have f0 := S.out.row.cell 0
      have f1 := S.out.row.cell 1
      have f2 := S.out.row.cell 2
      simp only [List.getElem?_cons_zero, List.getElem?_cons_succ] at f0 f1 f2
      have hRne : R ≠ wr.heap.size := by omega
      have hjm : (j : Int) < (m : Int) := by omega
      obtain ⟨⟨xk, xa, xw⟩, hX⟩ : ∃ X, dX14 V E κ i u = X := ⟨_, rfl⟩
      have RD := Lib.hid (rdo14_any κ i u _ (by have := N.out.vl; omega) (by have := N.out.kl; omega) N.out.bd (fun g hg => S1.out.room hg) S1.out.ref)
      have HX := Lib.hid hX
      have HKL := Lib.hid (fun g (h : (Value.slice Ak nk ck).ownBlock = some g) => (S.out.kept.lt g h).2)
      clear hX S B1
      unfold touchV at RD
      go_wp2_with fail
      refine RD.out.mono ?_
      rw [HX.out]
      rintro e w2 ⟨D1, m1, q1, D2, m2, q2, D3, m3, q3, rfl, hv2, hb2⟩
      dsimp only
      unfold touchV
      have S2 := Lib.hid (S1.out.quiet hb2)
      have O2 := Lib.hid (O1.out.below hb2)
      have HV2 := Lib.hid hv2
      have hs2 := hb2.size
      simp at hs2
      have x1 : R < w2.heap.size := by omega
      have x2 : w2.heap.size ≠ R := by omega
      have x3 : wr.heap.size < w2.heap.size := by omega
      have x4 : wr.heap.size ≠ R := by omega
      have x5 : R ≠ wr.heap.size := by omega
      have t0 := S2.out.row.cell 0
      have t1 := S2.out.row.cell 1
      have t2 := S2.out.row.cell 2
      have y0 := S2.out.row.soft 0
      have y1 := S2.out.row.soft 1
      have y2 := S2.out.row.soft 2
      have o0 := O2.out.cell 0
      have o1 := O2.out.cell 1
      have o2 := O2.out.cell 2
      simp only [List.getElem?_cons_zero, List.getElem?_cons_succ] at t0 t1 t2 o0 o1 o2
      clear f0 f1 f2 z0 z1 z2 S1 O1 RD hv2 hb2 hRl hRne hadl
      have hn : (dN14 V E κ i != dN14 V E κ i) = false := by simp
      obtain ⟨n, hnn⟩ : ∃ n, dN14 V E κ i = n := ⟨_, rfl⟩
      have HNN := Lib.hid hnn
      rw [hnn] at hn
      have DO := Lib.hid (fun (W : World) (k v kv x y z : Value) (V2 K2 : List Int) (T2 : List Tch) (s : Lp14 w W t p a b R k v kv x y z V E K T V2 K2 T2) => do14_any κ i u W s.pt (by have := N.out.tl; omega) (by have := N.out.kl; omega))
      rw [hnn]
      clear hnn
      rcases dT14_or V E κ i u with ⟨e1, e2⟩ | ⟨q, e1, e2, e3⟩
      · rw [HX.out] at e2
        injection e2 with a1 a2
        injection a2 with a2 a3
        subst a1 a2 a3
        have E1 := Lib.hid e1
        clear e1
        have S3 := Lib.hid ((S2.out.stored HV2.out).quiet (below_on (below_al _ (.cells #[.slice D1 m1 q1, .slice D2 m2 q2, .slice D3 m3 q3] 30)) (below_al _ (.cells #[.int .i64 0, .int .i64 0, .int .i64 0] 33))))
        go_wp2_with fail
        refine (DO.out _ _ _ _ _ _ _ _ _ _ S3.out).mono ?_
        rintro e w5 ⟨k5, v5, rfl, p5, o5, hk5, hv5⟩
        have S5 := Lib.hid (S3.out.moved p5 o5 hk5 hv5)
        have N5 := Lib.hid (N.out.more (n' := nk) E κ i u (by rw [E1.out, List.append_nil]; exact N.out.tn))
        rw [HNN.out]
        clear p5 o5 hk5 hv5 S3 t0 t1 t2 y0 y1 y2 o0 o1 o2 x1 x2 x3 x4 x5 hs2 S2 O2 HV2 DO
        go_wp2
        go_roundw
        case rel =>
          have e : T ++ dT14 V E κ i u = T := by rw [E1.out, List.append_nil]
          have S6 := S5.out
          have N6 := N5.out
          rw [e] at S6 N6
          exact ⟨j + 1, _, _, _, _, _, _, _, _, _, _, _, _, _, _, _, _, _, by omega, rfl, by go_num, Lib.hid S6, Lib.hid N6⟩
        case measure => simp [intOf]; omega
      · rw [HX.out] at e2
        subst e2
        have E1 := Lib.hid e1
        have hb : (xk != 0) = true := by simpa using e3
        clear e1 e3
        have S3 := Lib.hid ((S2.out.stored HV2.out).quiet (below_on (below_al _ (.cells #[.slice D1 m1 q1, .slice D2 m2 q2, .slice D3 m3 q3] 30)) (below_al _ (.cells #[.int .i64 xk, .int .i64 xa, .int .i64 xw] 33))))
        have hO : Only (· = R) w2 (((w2.setCell ⟨R, 0, none⟩ (.slice D1 m1 q1)).setCell ⟨R, 1, none⟩ (.slice D2 m2 q2)).setCell ⟨R, 2, none⟩ (.slice D3 m3 q3)) :=
          (((Only.refl (· = R) w2).setCell (p := ⟨R, 0, none⟩) (.inl rfl) _).setCell (p := ⟨R, 1, none⟩) (.inl rfl) _).setCell (p := ⟨R, 2, none⟩) (.inl rfl) _
        have O3 := Lib.hid (((O2.out.only hO x4).below (below_al _ (.cells #[.slice D1 m1 q1, .slice D2 m2 q2, .slice D3 m3 q3] 30))).below (below_al _ (.cells #[.int .i64 xk, .int .i64 xa, .int .i64 xw] 33)))
        have hK3 := S3.out.kept
        rw [N.out.tn] at hK3
        have HK3 := Lib.hid hK3
        have hR3 := S3.out.row.lt
        have hnk : nk ≤ 100 := by have := N.out.tl; have := N.out.tn; omega
        have TO := Lib.hid (tcs_one [(xk, xa, xw)])
        clear hK3 hO
        go_wp2_with (at_builtin; go_must (refine app14_walk rfl (.tmp 59) (.tmp 61) 23 rfl (R + 1) 33 i0 _ 3 24 Try.underlying23 hi0 hz0 hz1 hz2 rfl (by omega) (.slice Ak nk ck) nk (tcs T) rfl (HK3.out.alloc _) ⟨_, 0, none⟩ 1 1 (thr (xk, xa, xw)) rfl rfl (cells_new14 _ _ _ _ (by simp)) (fun q hq => TO.out q (by simpa [tcs] using hq)) (by unfold maxLen; omega) (by omega) (by simp at hR3 ⊢; omega) ?_; intro v4 w4 hown4 hg4 hat4; obtain ⟨g', cap', rfl, hbg, hlt'⟩ := hown4.form (by omega); have S4 := Lib.hid ((S3.out.quiet (below_al _ _)).keep hg4 hown4 N.out.tn rfl hat4); have O4 := ((O3.out.below (below_al _ _)).of_grown hg4 (fun e => by have := HKL.out _ e.symm; omega)); clear hown4 hg4 hat4 o0 o1 o2; have o0 := O4.cell 0; have o1 := O4.cell 1; have o2 := O4.cell 2; simp only [List.getElem?_cons_zero, List.getElem?_cons_succ] at o0 o1 o2; clear O4))
        refine (DO.out _ _ _ _ _ _ _ _ _ _ S4.out).mono ?_
        rintro e w5 ⟨k5, v5, rfl, p5, o5, hk5, hv5⟩
        have S5 := Lib.hid (S4.out.moved p5 o5 hk5 hv5)
        have N5 := Lib.hid (N.out.more (n' := nk + 1) E κ i u (by rw [E1.out, List.length_append, N.out.tn]; rfl))
        rw [HNN.out]
        clear p5 o5 hk5 hv5 S3 S4 O3 HK3 hR3 TO t0 t1 t2 y0 y1 y2 o0 o1 o2 x1 x2 x3 x4 x5 hs2 S2 O2 HV2 DO
        go_wp2
        go_roundw
        case rel =>
          have S6 := S5.out
          rw [← E1.out] at S6
          exact ⟨j + 1, _, _, _, _, _, _, _, _, _, _, _, _, _, _, _, _, _, by omega, rfl, by go_num, Lib.hid S6, N5⟩
        case measure => simp [intOf]; omega
    · obtain rfl : j = m := by omega
      have hjm : ¬ ((j : Int) < (j : Int)) := by omega
      go_wp2_with fail
      refine (touches14_any wr S.out.pt.trace (by have := N.out.tl; omega)).mono ?_
      rintro e w4 ⟨v4, rfl, o4, hb4⟩
      have L4 := Lib.hid (Thr.of_own o4)
      obtain ⟨A4, d4, rfl⟩ := own_open14 o4
      rw [N.out.tn] at L4
      rw [N.out.tn]
      have S4 := Lib.hid (S.out.quiet hb4)
      clear o4 hb4 S
      have hV := N.out.vl
      have hK := N.out.kl
      have hnk : nk ≤ 100 := by have := N.out.tl; have := N.out.tn; omega
      have WD := Lib.hid (words_since S4.out.pt.plain)
      have KD := Lib.hid (kicks_since S4.out.pt.plain (by omega))
      have LW := Lib.hid S4.out.ref.words
      have LK := Lib.hid S4.out.ref.kicks
      have hRl := S4.out.row.lt
      have q1 := S4.out.row.cell 0
      have q2 := S4.out.row.cell 2
      simp only [List.getElem?_cons_zero, List.getElem?_cons_succ] at q1 q2
      have hb5 : Below w4.heap.size w4 w4 := Below.refl _ _
      have hnn : ((nk : Int) != (nk : Int)) = false := by simp
      go_wp2
      go_region_held3 (fun w' => w'.cell? ⟨R, 0, none⟩ = some (.slice A1 n1 c1) ∧ w'.cell? ⟨R, 2, none⟩ = some (.slice A3 n3 c3) ∧ Below w4.heap.size w4 w')
        (first
          | exact ⟨(hb9.cell (p := ⟨R, 0, none⟩) hRl).trans q1, (hb9.cell (p := ⟨R, 2, none⟩) hRl).trans q2, hb9⟩
          | exact ⟨(hb8.cell (p := ⟨R, 0, none⟩) hRl).trans q1, (hb8.cell (p := ⟨R, 2, none⟩) hRl).trans q2, hb8⟩
          | exact ⟨(hb7.cell (p := ⟨R, 0, none⟩) hRl).trans q1, (hb7.cell (p := ⟨R, 2, none⟩) hRl).trans q2, hb7⟩
          | exact ⟨(hb6.cell (p := ⟨R, 0, none⟩) hRl).trans q1, (hb6.cell (p := ⟨R, 2, none⟩) hRl).trans q2, hb6⟩
          | exact ⟨by simpa using q1, by simpa using q2, hb5.drew⟩
          | exact ⟨by simpa using q1, by simpa using q2, hb5⟩
          | go_keep)
        (first
          | (go_at_call 12; (with_reducible refine (WD.out _ ?_).mono ?_); (go_split_ands; assumption); rintro e w6 ⟨v6, rfl, hv6, hb6⟩)
          | (go_at_call 11; (with_reducible refine (same_since14 hv6.out LW.out ?_ (by omega)).mono ?_); (go_split_ands; assumption); rintro e w7 ⟨rfl, hb7⟩)
          | (go_at_call 13; (with_reducible refine (KD.out _ ?_).mono ?_); (go_split_ands; assumption); rintro e w8 ⟨v8, rfl, hv8, hb8⟩)
          | (go_at_call 11; (with_reducible refine (same_since14 hv8.out LK.out ?_ (by omega)).mono ?_); (go_split_ands; assumption); rintro e w9 ⟨rfl, hb9⟩))
      have S9 := Lib.hid (S4.out.quiet hb9)
      have L9 := Lib.hid (L4.out.below hb9)
      have hK9 : Thr w9 (fun b => (Value.slice Ak nk ck).ownBlock = some b) (.slice Ak nk ck) T := Thr.of_own S9.out.kept
      have K9 := Lib.hid hK9
      have HTN := Lib.hid N.out.tn
      have nq := fun (x y z : Int) (W : World) => neq_t14 x y z W
      clear hK9 S4 L4 N WD KD LW LK q1 q2 hb5 hb6 hb7 hb8 hb9 hv6 hv8 hRl hV hK hnn
      go_wp2
      go_loopw [95] (fun i wo => ∃ q : Nat, q ≤ nk ∧ i = .int .i64 q ∧ Hid (Below w9.heap.size w9 wo)) (fun i _ => nk - (intOf i).toNat)
      case atStart => exact ⟨0, Nat.zero_le _, rfl, Lib.hid (Below.refl _ _)⟩
      case round =>
        obtain ⟨q, hq, rfl, HB⟩ := hrel
        by_cases hlt : q < nk
        · obtain ⟨x, hx⟩ : ∃ x, T[q]? = some x := ⟨_, List.getElem?_eq_getElem (by rw [HTN.out]; exact hlt)⟩
          obtain ⟨ga, oa, rfl, _, hga, a0, a1, a2⟩ := L9.out.cells hx
          obtain ⟨gk, ok, rfl, _, hgk, b0, b1, b2⟩ := K9.out.cells hx
          obtain ⟨x0, x1, x2⟩ := x
          have hqn : (q : Int) < (nk : Int) := by omega
          have c0 := (HB.out.cell (p := ⟨ga, oa + q * 3, none⟩) hga).trans a0
          have c1 := (HB.out.cell (p := ⟨ga, oa + q * 3 + 1, none⟩) hga).trans a1
          have c2 := (HB.out.cell (p := ⟨ga, oa + q * 3 + 2, none⟩) hga).trans a2
          have f0 := (HB.out.cell (p := ⟨gk, ok + q * 3, none⟩) hgk).trans b0
          have f1 := (HB.out.cell (p := ⟨gk, ok + q * 3 + 1, none⟩) hgk).trans b1
          have f2 := (HB.out.cell (p := ⟨gk, ok + q * 3 + 2, none⟩) hgk).trans b2
          dsimp only at c0 c1 c2 f0 f1 f2
          have hs := HB.out.size
          have hga2 : ga < wr.heap.size := by omega
          have hgk2 : gk < wr.heap.size := by omega
          clear hx a0 a1 a2 b0 b1 b2
          go_wp2
          go_quiet (fail)
          go_wp2
          refine ⟨⟨q + 1, by omega, by simp, Lib.hid (below_dn (HB.out.alloc hs _) _)⟩, ?_⟩
          simp [intOf]
          omega
        · obtain rfl : q = nk := by omega
          go_wp2_with fail
          refine (alive14 _).mono ?_
          rintro e w10 ⟨rfl, hb10⟩
          go_wp2
          go_ret
          exact ⟨rfl, below_on (S9.out.below.trans (HB.out.mono S9.out.below.size)) hb10⟩

set_option maxRecDepth 100000 in
set_option maxHeartbeats 1000000 in
theorem portPlain_any (P Q : Nat → Prop) (vw ve vl : Value) (l1 l2 : List Int) (Rc : List (List Int)) (w : World) (h1 : Lies w P vw (ints l1)) (h2 : Lies w Q ve (ints l2)) (hR : Recs w 3 vl Rc) (hm1 : l1.length ≤ maxLen) (hm2 : l2.length ≤ maxLen) (hm3 : Rc.length ≤ maxLen) :
    Calls Try.prog 3 #[vw, ve, vl] w fun e w' => e = .returned (.bool true) ∧ Below w.heap.size w w' := by
  unfold maxLen at hm1 hm2 hm3
  have al := fun W => Lib.hid (alive14 W)
  by_cases c1 : 100 < l1.length
  · obtain ⟨Aw, nw, cw, rfl, HNW, HW⟩ := lies_open h1
    obtain ⟨Ae, ne, ce, rfl, HNE, HE⟩ := lies_open h2
    obtain ⟨A, c, rfl, hA⟩ := hR
    have g1 : (100 : Int) < (nw : Int) := by rw [← HNW.out]; omega
    clear hA h1 h2 hm1 hm2
    go_enter Try.func3, Try.ntmps3
    go_wp2_with (go_at_call 4; refine (al _).out.mono ?_; rintro e w3 ⟨rfl, hb3⟩)
    go_ret
    exact ⟨rfl, hb3⟩
  · by_cases c2 : 100 < l2.length
    · obtain ⟨Aw, nw, cw, rfl, HNW, HW⟩ := lies_open h1
      obtain ⟨Ae, ne, ce, rfl, HNE, HE⟩ := lies_open h2
      obtain ⟨A, c, rfl, hA⟩ := hR
      have g1 : decide ((100 : Int) < (nw : Int)) = false := by rw [← HNW.out]; simp; omega
      have g2 : (100 : Int) < (ne : Int) := by rw [← HNE.out]; omega
      clear hA h1 h2 hm1 hm2
      go_enter Try.func3, Try.ntmps3
      go_wp2_with (go_at_call 4; refine (al _).out.mono ?_; rintro e w3 ⟨rfl, hb3⟩)
      go_ret
      exact ⟨rfl, hb3⟩
    · by_cases c3 : 100 < Rc.length
      · obtain ⟨Aw, nw, cw, rfl, HNW, HW⟩ := lies_open h1
        obtain ⟨Ae, ne, ce, rfl, HNE, HE⟩ := lies_open h2
        obtain ⟨A, c, rfl, hA⟩ := hR
        have g1 : decide ((100 : Int) < (nw : Int)) = false := by rw [← HNW.out]; simp; omega
        have g2 : decide ((100 : Int) < (ne : Int)) = false := by rw [← HNE.out]; simp; omega
        have g3 : (100 : Int) < (Rc.length : Int) := by omega
        clear hA h1 h2 hm1 hm2
        go_enter Try.func3, Try.ntmps3
        go_wp2_with (go_at_call 4; refine (al _).out.mono ?_; rintro e w3 ⟨rfl, hb3⟩)
        go_ret
        exact ⟨rfl, hb3⟩
      · exact portPlain_main P Q vw ve vl l1 l2 Rc w h1 h2 hR (by omega) (by omega) (by omega)

#print axioms portPlain_any
end Go.Proofs.Ytldhflpbpgckeaa
