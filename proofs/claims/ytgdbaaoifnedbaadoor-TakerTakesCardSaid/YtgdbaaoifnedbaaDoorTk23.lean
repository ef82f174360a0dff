/-
  Layer 17 (taker): the law's released.
  Conditions: those that each theorem states.
-/
import Derived.Test.YtgdbaaoifnedbaaDoorTk22
import Derived.Deep.RegionLaw
import Derived.Deep.RegionLawGrows
namespace Go.Proofs.YtgdbaaoifnedbaaDoor
open Go.ChangeShapes Go.WideShapes Go.ChangeAt Go.RowKit

/-- Handles of slots. -/
def hn17 (S : List Nat) : List Int := S.map (fun (s : Nat) => 64 + (s : Int))
theorem hn17_len (S : List Nat) : (hn17 S).length = S.length := by simp [hn17]
theorem hn17_at {S : List Nat} {j s : Nat} (h : S[j]? = some s) : (hn17 S)[j]? = some (64 + (s : Int)) := by simp [hn17, h]
theorem hn17_drop (S : List Nat) (j : Nat) : (hn17 S).take j ++ (hn17 S).drop (j + 1) = hn17 (S.take j ++ S.drop (j + 1)) := by simp [hn17]

/-- What holds at the head of the loop. -/
structure Rz17 (w0 wr : World) (X : Nat → Prop) (g p R n0 i : Nat) (v : Value) (S : List Nat) (G : Tk) (V : List Int) (U : Nat → Prop) : Prop where
  mem : Lr17 w0 wr X g p v (hn17 S) G V [0, 0, 0] [] U
  tak : Tak17 R G
  linked : G.linked = true
  used : G.used = (i : Int)
  tab : Tab17 R G.tab S
  len : V.length = 4 + 11 * R
  sum : i + S.length = n0

set_option maxRecDepth 100000 in
set_option maxHeartbeats 8000000 in
theorem released17_any {w0 W : World} {X : Nat → Prop} {g p R n0 : Nat} {v : Value} {S0 : List Nat} {G0 : Tk} {V0 : List Int} {U0 : Nat → Prop} (hT : TabAt w0) (hR : okRing (R : Int)) (Z0 : Rz17 w0 W X g p R n0 0 v S0 G0 V0 U0) (hn0 : n0 ≤ R) (ord : Value) (os : List Int)
    (hO : ∀ wr, Below w0.heap.size w0 wr → Lies wr (fun _ => True) ord (kints .u8 os)) (ho : ∀ z ∈ os, 0 ≤ z ∧ z ≤ 255) :
    Calls Tryd.prog 50 #[.pointer (some ⟨g, 0, none⟩), .pointer (some ⟨p, 0, none⟩), .int .i64 (R : Int), v, ord] W fun e w' => e = .returned (.bool true) ∧ Below w0.heap.size w0 w' := by
  obtain ⟨i0, hi0, hz0, hz1, hz2⟩ := info_parts int_info
  obtain ⟨A0, c0, hv0⟩ := own_open14 Z0.mem.hl
  have ZZ := Lib.hid Z0
  rw [hn17_len] at hv0
  obtain ⟨m0, hm0⟩ : ∃ m, S0.length = m := ⟨_, rfl⟩
  rw [hm0] at hv0
  subst hv0
  have HM0 := Lib.hid hm0
  obtain ⟨Ao, co, hvo, -⟩ := id (hO W Z0.mem.below)
  rw [kints_len] at hvo
  obtain ⟨no, hno⟩ : ∃ n, os.length = n := ⟨_, rfl⟩
  rw [hno] at hvo
  subst hvo
  have HO := Lib.hid hO
  have HZ := Lib.hid ho
  have HNO := Lib.hid hno
  have HT := Lib.hid hT
  have HR := Lib.hid hR
  have HN0 := Lib.hid hn0
  clear hO ho hno hT hR hn0 Z0 hm0
  go_enter Tryd.func50, Tryd.ntmps50
  go_wp2
  go_loopw [3, 11] (fun hv iv wr => ∃ (i : Nat) (A : Option Addr) (n c : Nat), iv = .int .i64 i ∧ hv = .slice A n c ∧ ∃ (S : List Nat) (G : Tk) (V : List Int) (U : Nat → Prop), Hid (Rz17 w0 wr X g p R n0 i (.slice A n c) S G V U ∧ S.length = n)) (fun _ iv _ => n0 + 1 - (intOf iv).toNat)
  case atStart => exact ⟨0, A0, m0, c0, rfl, rfl, S0, G0, V0, U0, Lib.hid ⟨ZZ.out, HM0.out⟩⟩
  case round =>
    clear ZZ HM0
    obtain ⟨i, A, n, c, rfl, rfl, S, G, V, U, Z⟩ := hrel
    by_cases hn : n = 0
    · subst hn
      have hS : S = [] := List.eq_nil_of_length_eq_zero Z.out.2
      have KH := Lib.hid Z.out.1.mem.held
      have e0 : hs17 G = [] := by
        have := Z.out.1.tab
        rw [hS] at this
        exact this.none_ _
      rw [e0] at KH
      have BW := Lib.hid Z.out.1.mem.below
      clear hS e0
      go_wp2_with fail
      refine KH.out.mono ?_
      rintro e w2 ⟨A2, c2, rfl, b2⟩
      have B2 := Lib.hid (below_on BW.out b2)
      clear b2
      go_wp2
      go_ret
      exact ⟨rfl, B2.out⟩
    · have hnp : 0 < n := by omega
      have hgt : (0 : Int) < (n : Int) := by omega
      have hgn : decide (0 < n) = true := by simpa using hnp
      by_cases hio : i < no
      · obtain ⟨z, hz⟩ : ∃ z, os[i]? = some z := ⟨_, List.getElem?_eq_getElem (by rw [HNO.out]; exact hio)⟩
        obtain ⟨z0, z1⟩ := HZ.out z (List.mem_of_getElem? hz)
        obtain ⟨go, oo, rfl, -, hgo, hzc⟩ := kind_at (HO.out wr Z.out.1.mem.below) hz
        have hion : (i : Int) < (no : Int) := by omega
        have hion' : decide (i < no) = true := by simpa using hio
        have hzw : IntKind.i64.wrap z = z := IntWalk.i64_in _ (by omega)
        obtain ⟨J, hJ, hJn⟩ : ∃ J : Nat, z.tmod (n : Int) = J ∧ J < n := by
          have t0 : z.tmod (n : Int) = z % (n : Int) := Int.tmod_eq_emod_of_nonneg z0
          have t1 := Int.emod_nonneg z (show (n : Int) ≠ 0 by omega)
          have t2 := Int.emod_lt_of_pos z (show (0 : Int) < n by omega)
          exact ⟨(z % (n : Int)).toNat, by rw [t0]; omega, by omega⟩
        have HJ0 := Lib.hid hJ
        clear hJ
        have hJl : (J : Int) < (n : Int) := by omega
        have hnz : ¬ ((n : Int) = 0) := by omega
        have HJZ : Hid (z.tmod (n : Int) = J ∧ wrap64 (J : Int) = (J : Int)) := Lib.hid ⟨HJ0.out, by rw [← IntWalk.i64_left, IntWalk.i64_in _ (by have := HR.out.bd; have := HN0.out; have := Z.out.1.sum; have := Z.out.2; omega)]⟩
        clear HJ0
        clear hz
        obtain ⟨s, hs⟩ : ∃ s, S[J]? = some s := ⟨_, List.getElem?_eq_getElem (by have := Z.out.2; omega)⟩
        obtain ⟨gg, dg, hAg, hgb, hglt⟩ : ∃ gg dg, Value.slice A n c = .slice (some ⟨gg, 0, none⟩) n dg ∧ w0.heap.size ≤ gg ∧ gg < wr.heap.size := by
          have og := Z.out.1.mem.hl
          rw [hn17_len, Z.out.2] at og
          exact og.form (by omega)
        injection hAg with hAg1 _ hAg2
        subst hAg1 hAg2
        have hxc : wr.cell? ⟨gg, J, none⟩ = some (.int .i64 (64 + (s : Int))) := by
          have og := Z.out.1.mem.hl
          rw [hn17_len, Z.out.2] at og
          exact (og.cellAt J (by omega)).trans (ints_some (hn17_at hs))
        have hsplit : S = S.take J ++ s :: S.drop (J + 1) := by
          have hlt : J < S.length := by have := Z.out.2; omega
          have e1 : S[J] = s := by
            have := List.getElem?_eq_getElem hlt
            rw [hs] at this
            exact (Option.some.inj this).symm
          rw [← e1, ← List.drop_eq_getElem_cons, List.take_append_drop]
        have hiR : i < R := by have h1 := Z.out.1.sum; have h2 := Z.out.2; have := HN0.out; omega
        have HS := Lib.hid hs
        have tb := Z.out.1.tab
        rw [hsplit] at tb
        obtain ⟨b1, b2, b3, b4, G', V', ov, tk', lk', us', tb', ln', r1, r2, ag, ag2⟩ := take17_back (K := []) HR.out Z.out.1.len hiR Z.out.1.tak Z.out.1.linked Z.out.1.used tb
        have KSL := Lib.hid (Z.out.1.mem.slot (64 + (s : Int)))
        rw [b1, b2] at KSL
        have KRE := Lib.hid (Z.out.1.mem.release (64 + (s : Int)))
        rw [b3] at KRE
        have OV := Lib.hid ov
        have POT := Lib.hid b4
        have HB := Lib.hid (And.intro tk' (And.intro lk' (And.intro us' (And.intro tb' (And.intro ln' (And.intro r1 (And.intro r2 (And.intro ag ag2))))))))
        have HJ2 := Lib.hid (show (S.take J ++ S.drop (J + 1)).length = n - 1 by rw [List.length_append, List.length_take, List.length_drop, Z.out.2]; omega)
        have h64 : IntKind.i64.wrap (64 + (s : Int)) = 64 + (s : Int) := IntWalk.i64_in _ (by have := (Z.out.1.tab.mem s (List.mem_of_getElem? hs)).1; have := HR.out.bd; omega)
        obtain ⟨hh, hhe⟩ : ∃ hh, 64 + (s : Int) = hh := ⟨_, rfl⟩
        rw [hhe] at hxc KSL KRE OV POT HB
        have HHE := Lib.hid hhe
        clear tb hs hsplit b1 b2 b3 b4 ov tk' lk' us' tb' ln' r1 r2 ag ag2 h64 hhe
        obtain ⟨hJ, hJz⟩ := HJZ.out
        go_wp2_with fail
        refine KSL.out.mono ?_
        rintro e w' ⟨rfl, rfl⟩
        clear hJ hJz HJZ
        go_wp2_with fail
        refine KRE.out.mono ?_
        rintro e w1 ⟨rfl, n1⟩
        obtain ⟨⟨U1, l1⟩, -⟩ := n1
        have L1 := Lib.hid l1
        have K1 := Lib.hid (l1.run HT.out OV.out POT.out)
        unfold face14 at K1
        clear l1 KSL KRE OV POT hxc
        go_wp2_with fail
        refine K1.out.mono ?_
        rintro e w2 ⟨rfl, n2⟩
        obtain ⟨⟨U2, l2⟩, -⟩ := n2
        have L2 := Lib.hid l2
        have K2 := Lib.hid (l2.release hh)
        rw [HB.out.2.2.2.2.2.2.2.1, HB.out.2.2.2.2.2.2.2.2] at K2
        clear l2 K1 L1
        go_wp2_with fail
        refine K2.out.mono ?_
        rintro e w3 ⟨rfl, n3⟩
        obtain ⟨⟨U3, l3⟩, -⟩ := n3
        have L3 := Lib.hid l3
        clear l3 K2 L2
        have KA1 := Lib.hid (rat13_any 0 (R : Int) 6 (i : Int) 0 (by omega) (by have := HR.out.bd; omega) w3)
        have KA2 := Lib.hid (rat13_any 0 (R : Int) 4 0 0 (by omega) (by have := HR.out.bd; omega) w3)
        rw [show atV13 0 (R : Int) 6 (i : Int) 0 = of17 R 6 (i : Int) 0 by unfold atV13; rw [if_pos (w17_6 hiR)]; unfold of17; omega] at KA1
        rw [show atV13 0 (R : Int) 4 0 0 = 3 by unfold atV13; rw [if_pos (w17_ok 4 (by omega))]; show 0 + of17 R 4 0 0 = 3; rw [of17_low R 4 (by omega)]; omega] at KA2
        go_wp2_with fail
        refine KA1.out.mono ?_
        rintro e w' ⟨rfl, rfl⟩
        go_wp2_with fail
        refine KA2.out.mono ?_
        rintro e w' ⟨rfl, rfl⟩
        have KL1 := Lib.hid (L3.out.load (of17 R 6 (i : Int) 0))
        have KL2 := Lib.hid (L3.out.load 3)
        rw [HB.out.2.2.2.2.2.1] at KL1
        rw [HB.out.2.2.2.2.2.2.1] at KL2
        go_wp2_with fail
        refine KL1.out.mono ?_
        rintro e w' ⟨rfl, rfl⟩
        have hiw : IntKind.i64.wrap ((i : Int) + 1) = ((i + 1 : Nat) : Int) := by rw [IntWalk.i64_in _ (by have := HR.out.bd; omega)]; omega
        go_wp2_with fail
        refine KL2.out.mono ?_
        rintro e w' ⟨rfl, rfl⟩
        clear KA1 KA2 KL1 KL2
        have lg := L3.out.hl
        rw [hn17_len, Z.out.2] at lg
        have hgl3 := (lg.lt gg rfl).2
        obtain ⟨LH, CH⟩ := head17 lg (show J ≤ n by omega)
        have hcap : n ≤ c := CapOk.of_own lg
        have LH' := Lib.hid LH
        have CH' := Lib.hid CH
        obtain ⟨M, hM⟩ : ∃ M, J + 1 = M := ⟨_, rfl⟩
        rw [hM] at HJ2 HB
        have LT := Lib.hid (fun (A : Option Addr) hA hS => tail17 lg (k := M) (A := A) (by omega) hA hS)
        have O1 := Lib.hid (ints_one ((hn17 S).take J))
        have O2 := Lib.hid (ints_one ((hn17 S).drop M))
        have HDR := Lib.hid (hn17_drop S J)
        rw [hM] at HDR
        have hJ1 : J ≤ c := by omega
        have hJw : IntKind.i64.wrap ((J : Int) + 1) = (M : Int) := by rw [IntWalk.i64_in _ (by have := HR.out.bd; have := HN0.out; have := Z.out.1.sum; have := Z.out.2; omega)]; omega
        have hM0 : (0 : Int) ≤ (M : Int) := by omega
        have hM1 : (M : Int) ≤ (n : Int) := by omega
        have hn64 : n ≤ 64 := by have := HR.out.bd; have := HN0.out; have := Z.out.1.sum; have := Z.out.2; omega
        obtain ⟨AA, hAA, hA1, hA2⟩ : ∃ AA : Option Addr, (if c = M then some (⟨gg, 0, none⟩ : Addr) else some ⟨gg, M, none⟩) = AA ∧ (M < n → AA = some ⟨gg, M, none⟩) ∧ AA.isSome = true := ⟨_, rfl, fun hlt => by rw [if_neg (by omega)], by split <;> rfl⟩
        have LA := Lib.hid (LT.out AA hA1 hA2)
        clear LH CH lg LT hA1 hA2
        go_wp2
        go_region_law (first
          | (refine app_step _ rfl (.tmp 92) (.tmp 95) 33 rfl w3.heap.size 3 i0 _ 8 Tryd.underlying33 hi0 hz0 hz1 hz2 rfl (.slice (some ⟨w3.heap.size, 0, none⟩) 0 0) 0 [] rfl (own_empty17 (Row.new w3 3 #[]) (Nat.le_refl _)) _ (some ⟨gg, 0, none⟩) J c (ints ((hn17 S).take J)) rfl (LH'.out.below (show Below w3.heap.size w3 _ from by go_grown)) CH'.out O1.out (by unfold maxLen; omega) (by omega) (by simp) ?_; intro v5 w5 hown5 hg5 hat5; rw [Nat.zero_add, List.nil_append] at hown5; have HB5 := Lib.hid ((show Below w3.heap.size w3 _ from by go_grown).grown hg5 (by simp) (by intro q hq; simp only [Value.ownBlock, Option.some.injEq] at hq; omega)); have OW5 := Lib.hid hown5; clear hown5 hg5 hat5)
          | (refine app_step _ rfl (.tmp 96) (.tmp 100) 33 rfl w3.heap.size 3 i0 _ 8 Tryd.underlying33 hi0 hz0 hz1 hz2 rfl v5 J (ints ((hn17 S).take J)) rfl (own_only OW5.out (Only.of_below (show Below w5.heap.size w5 _ from by go_grown) (fun _ => False)) (fun _ _ q0 => q0)) _ _ (n - M) (c - M) (ints ((hn17 S).drop M)) rfl (LA.out.1.below (below_on HB5.out (show Below w5.heap.size w5 _ from by go_grown))) LA.out.2 O2.out (by unfold maxLen; omega) (by omega) (below_on HB5.out (show Below w5.heap.size w5 _ from by go_grown)).size ?_; intro v6 w6 hown6 hg6 hat6; rw [← ints_append, show J + (n - M) = n - 1 from by omega] at hown6; obtain ⟨A6, c6, rfl⟩ := own15_is hown6; have B6 := Lib.hid ((below_on HB5.out (show Below w5.heap.size w5 _ from by go_grown)).grown hg6 (below_on HB5.out (show Below w5.heap.size w5 _ from by go_grown)).size (fun q hq => (OW5.out.lt q hq).1)); have S6 := Lib.hid hown6; clear hown6 hg6 hat6))
        all_goals
          have Z6 : Hid (Rz17 w0 w6 X g p R n0 (i + 1) (.slice A6 (n - 1) c6) (S.take J ++ S.drop M) G' V' (fun x => U3 x ∧ x < w3.heap.size)) := Lib.hid (by
            have o6 := S6.out
            rw [HDR.out] at o6
            obtain ⟨q1, q2, q3, q4, q5, -⟩ := HB.out
            exact ⟨L3.out.list B6.out (by rw [hn17_len, HJ2.out]; exact o6), q1, q2, q3, q4, q5, by rw [HJ2.out]; have := Z.out.1.sum; have := Z.out.2; omega⟩)
          go_wp2
          go_roundw
          case rel => exact ⟨i + 1, A6, n - 1, c6, by go_num, rfl, S.take J ++ S.drop M, G', V', _, Lib.hid ⟨Z6.out, HJ2.out⟩⟩
          case measure => simp [intOf]; have := Z.out.1.sum; have := Z.out.2; omega
      · have hion : ¬ (i : Int) < (no : Int) := by omega
        have hion' : decide (i < no) = false := by simpa using hio
        obtain ⟨J, hJ0⟩ : ∃ J : Nat, J = 0 := ⟨0, rfl⟩
        have hJn : J < n := by omega
        have hJl : (J : Int) < (n : Int) := by omega
        subst hJ0
        obtain ⟨s, hs⟩ : ∃ s, S[0]? = some s := ⟨_, List.getElem?_eq_getElem (by have := Z.out.2; omega)⟩
        obtain ⟨gg, dg, hAg, hgb, hglt⟩ : ∃ gg dg, Value.slice A n c = .slice (some ⟨gg, 0, none⟩) n dg ∧ w0.heap.size ≤ gg ∧ gg < wr.heap.size := by
          have og := Z.out.1.mem.hl
          rw [hn17_len, Z.out.2] at og
          exact og.form (by omega)
        injection hAg with hAg1 _ hAg2
        subst hAg1 hAg2
        have hxc : wr.cell? ⟨gg, 0, none⟩ = some (.int .i64 (64 + (s : Int))) := by
          have og := Z.out.1.mem.hl
          rw [hn17_len, Z.out.2] at og
          exact (og.cellAt 0 (by omega)).trans (ints_some (hn17_at hs))
        have hsplit : S = S.take 0 ++ s :: S.drop (0 + 1) := by
          have hlt : 0 < S.length := by have := Z.out.2; omega
          have e1 : S[0] = s := by
            have := List.getElem?_eq_getElem hlt
            rw [hs] at this
            exact (Option.some.inj this).symm
          rw [← e1, ← List.drop_eq_getElem_cons, List.take_append_drop]
        have hiR : i < R := by have h1 := Z.out.1.sum; have h2 := Z.out.2; have := HN0.out; omega
        have HS := Lib.hid hs
        have tb := Z.out.1.tab
        rw [hsplit] at tb
        obtain ⟨b1, b2, b3, b4, G', V', ov, tk', lk', us', tb', ln', r1, r2, ag, ag2⟩ := take17_back (K := []) HR.out Z.out.1.len hiR Z.out.1.tak Z.out.1.linked Z.out.1.used tb
        have KSL := Lib.hid (Z.out.1.mem.slot (64 + (s : Int)))
        rw [b1, b2] at KSL
        have KRE := Lib.hid (Z.out.1.mem.release (64 + (s : Int)))
        rw [b3] at KRE
        have OV := Lib.hid ov
        have POT := Lib.hid b4
        have HB := Lib.hid (And.intro tk' (And.intro lk' (And.intro us' (And.intro tb' (And.intro ln' (And.intro r1 (And.intro r2 (And.intro ag ag2))))))))
        have HJ2 := Lib.hid (show (S.take 0 ++ S.drop (0 + 1)).length = n - 1 by rw [List.length_append, List.length_take, List.length_drop, Z.out.2]; omega)
        have h64 : IntKind.i64.wrap (64 + (s : Int)) = 64 + (s : Int) := IntWalk.i64_in _ (by have := (Z.out.1.tab.mem s (List.mem_of_getElem? hs)).1; have := HR.out.bd; omega)
        obtain ⟨hh, hhe⟩ : ∃ hh, 64 + (s : Int) = hh := ⟨_, rfl⟩
        rw [hhe] at hxc KSL KRE OV POT HB
        have HHE := Lib.hid hhe
        clear tb hs hsplit b1 b2 b3 b4 ov tk' lk' us' tb' ln' r1 r2 ag ag2 h64 hhe
        go_wp2_with fail
        refine KSL.out.mono ?_
        rintro e w' ⟨rfl, rfl⟩
        go_wp2_with fail
        refine KRE.out.mono ?_
        rintro e w1 ⟨rfl, n1⟩
        obtain ⟨⟨U1, l1⟩, -⟩ := n1
        have L1 := Lib.hid l1
        have K1 := Lib.hid (l1.run HT.out OV.out POT.out)
        unfold face14 at K1
        clear l1 KSL KRE OV POT hxc
        go_wp2_with fail
        refine K1.out.mono ?_
        rintro e w2 ⟨rfl, n2⟩
        obtain ⟨⟨U2, l2⟩, -⟩ := n2
        have L2 := Lib.hid l2
        have K2 := Lib.hid (l2.release hh)
        rw [HB.out.2.2.2.2.2.2.2.1, HB.out.2.2.2.2.2.2.2.2] at K2
        clear l2 K1 L1
        go_wp2_with fail
        refine K2.out.mono ?_
        rintro e w3 ⟨rfl, n3⟩
        obtain ⟨⟨U3, l3⟩, -⟩ := n3
        have L3 := Lib.hid l3
        clear l3 K2 L2
        have KA1 := Lib.hid (rat13_any 0 (R : Int) 6 (i : Int) 0 (by omega) (by have := HR.out.bd; omega) w3)
        have KA2 := Lib.hid (rat13_any 0 (R : Int) 4 0 0 (by omega) (by have := HR.out.bd; omega) w3)
        rw [show atV13 0 (R : Int) 6 (i : Int) 0 = of17 R 6 (i : Int) 0 by unfold atV13; rw [if_pos (w17_6 hiR)]; unfold of17; omega] at KA1
        rw [show atV13 0 (R : Int) 4 0 0 = 3 by unfold atV13; rw [if_pos (w17_ok 4 (by omega))]; show 0 + of17 R 4 0 0 = 3; rw [of17_low R 4 (by omega)]; omega] at KA2
        go_wp2_with fail
        refine KA1.out.mono ?_
        rintro e w' ⟨rfl, rfl⟩
        go_wp2_with fail
        refine KA2.out.mono ?_
        rintro e w' ⟨rfl, rfl⟩
        have KL1 := Lib.hid (L3.out.load (of17 R 6 (i : Int) 0))
        have KL2 := Lib.hid (L3.out.load 3)
        rw [HB.out.2.2.2.2.2.1] at KL1
        rw [HB.out.2.2.2.2.2.2.1] at KL2
        go_wp2_with fail
        refine KL1.out.mono ?_
        rintro e w' ⟨rfl, rfl⟩
        have hiw : IntKind.i64.wrap ((i : Int) + 1) = ((i + 1 : Nat) : Int) := by rw [IntWalk.i64_in _ (by have := HR.out.bd; omega)]; omega
        go_wp2_with fail
        refine KL2.out.mono ?_
        rintro e w' ⟨rfl, rfl⟩
        clear KA1 KA2 KL1 KL2
        have lg := L3.out.hl
        rw [hn17_len, Z.out.2] at lg
        have hgl3 := (lg.lt gg rfl).2
        obtain ⟨LH, CH⟩ := head17 lg (show 0 ≤ n by omega)
        have hcap : n ≤ c := CapOk.of_own lg
        have LH' := Lib.hid LH
        have CH' := Lib.hid CH
        obtain ⟨M, hM⟩ : ∃ M, 0 + 1 = M := ⟨_, rfl⟩
        rw [hM] at HJ2 HB
        have LT := Lib.hid (fun (A : Option Addr) hA hS => tail17 lg (k := M) (A := A) (by omega) hA hS)
        have O1 := Lib.hid (ints_one ((hn17 S).take 0))
        have O2 := Lib.hid (ints_one ((hn17 S).drop M))
        have HDR := Lib.hid (hn17_drop S 0)
        rw [hM] at HDR
        have hJ1 : 0 ≤ c := by omega
        have hJw : IntKind.i64.wrap 1 = (M : Int) := by rw [IntWalk.i64_in _ (by have := HR.out.bd; have := HN0.out; have := Z.out.1.sum; have := Z.out.2; omega)]; omega
        have hM0 : (0 : Int) ≤ (M : Int) := by omega
        have hM1 : (M : Int) ≤ (n : Int) := by omega
        have hn64 : n ≤ 64 := by have := HR.out.bd; have := HN0.out; have := Z.out.1.sum; have := Z.out.2; omega
        obtain ⟨AA, hAA, hA1, hA2⟩ : ∃ AA : Option Addr, (if c = M then some (⟨gg, 0, none⟩ : Addr) else some ⟨gg, M, none⟩) = AA ∧ (M < n → AA = some ⟨gg, M, none⟩) ∧ AA.isSome = true := ⟨_, rfl, fun hlt => by rw [if_neg (by omega)], by split <;> rfl⟩
        have LA := Lib.hid (LT.out AA hA1 hA2)
        clear LH CH lg LT hA1 hA2
        go_wp2
        go_region_law (first
          | (refine app_step _ rfl (.tmp 92) (.tmp 95) 33 rfl w3.heap.size 3 i0 _ 8 Tryd.underlying33 hi0 hz0 hz1 hz2 rfl (.slice (some ⟨w3.heap.size, 0, none⟩) 0 0) 0 [] rfl (own_empty17 (Row.new w3 3 #[]) (Nat.le_refl _)) _ (some ⟨gg, 0, none⟩) 0 c (ints ((hn17 S).take 0)) rfl (LH'.out.below (show Below w3.heap.size w3 _ from by go_grown)) CH'.out O1.out (by unfold maxLen; omega) (by omega) (by simp) ?_; intro v5 w5 hown5 hg5 hat5; rw [Nat.zero_add, List.nil_append] at hown5; have HB5 := Lib.hid ((show Below w3.heap.size w3 _ from by go_grown).grown hg5 (by simp) (by intro q hq; simp only [Value.ownBlock, Option.some.injEq] at hq; omega)); have OW5 := Lib.hid hown5; clear hown5 hg5 hat5)
          | (refine app_step _ rfl (.tmp 96) (.tmp 100) 33 rfl w3.heap.size 3 i0 _ 8 Tryd.underlying33 hi0 hz0 hz1 hz2 rfl v5 0 (ints ((hn17 S).take 0)) rfl (own_only OW5.out (Only.of_below (show Below w5.heap.size w5 _ from by go_grown) (fun _ => False)) (fun _ _ q0 => q0)) _ _ (n - M) (c - M) (ints ((hn17 S).drop M)) rfl (LA.out.1.below (below_on HB5.out (show Below w5.heap.size w5 _ from by go_grown))) LA.out.2 O2.out (by unfold maxLen; omega) (by omega) (below_on HB5.out (show Below w5.heap.size w5 _ from by go_grown)).size ?_; intro v6 w6 hown6 hg6 hat6; rw [← ints_append, show 0 + (n - M) = n - 1 from by omega] at hown6; obtain ⟨A6, c6, rfl⟩ := own15_is hown6; have B6 := Lib.hid ((below_on HB5.out (show Below w5.heap.size w5 _ from by go_grown)).grown hg6 (below_on HB5.out (show Below w5.heap.size w5 _ from by go_grown)).size (fun q hq => (OW5.out.lt q hq).1)); have S6 := Lib.hid hown6; clear hown6 hg6 hat6))
        all_goals
          have Z6 : Hid (Rz17 w0 w6 X g p R n0 (i + 1) (.slice A6 (n - 1) c6) (S.take 0 ++ S.drop M) G' V' (fun x => U3 x ∧ x < w3.heap.size)) := Lib.hid (by
            have o6 := S6.out
            rw [HDR.out] at o6
            obtain ⟨q1, q2, q3, q4, q5, -⟩ := HB.out
            exact ⟨L3.out.list B6.out (by rw [hn17_len, HJ2.out]; exact o6), q1, q2, q3, q4, q5, by rw [HJ2.out]; have := Z.out.1.sum; have := Z.out.2; omega⟩)
          go_wp2
          go_roundw
          case rel => exact ⟨i + 1, A6, n - 1, c6, by go_num, rfl, S.take 0 ++ S.drop M, G', V', _, Lib.hid ⟨Z6.out, HJ2.out⟩⟩
          case measure => simp [intOf]; have := Z.out.1.sum; have := Z.out.2; omega

#print axioms released17_any
end Go.Proofs.YtgdbaaoifnedbaaDoor
