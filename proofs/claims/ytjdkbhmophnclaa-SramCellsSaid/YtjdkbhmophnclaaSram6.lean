/-
  The walk of the law SramCells: it returns true for every input, and nothing that was there before the call changes.
  Conditions: none.
-/
import Derived.Test.YtjdkbhmophnclaaSram4
namespace Go.Proofs.Ytjdkbhmophnclaa
open Go.ChangeShapes Go.WideShapes Go.ChangeAt Go.RowKit

theorem rsame_bool (P Q : Nat → Prop) (v u : Value) (x y : List Int) (b : Bool) (w : World) (hb : decide (x = y) = b) (hv : Lies w P v (ints x)) (hu : Lies w Q u (ints y)) (hx : x.length ≤ 65536) (hy : y.length ≤ 65536) :
    Calls Try.prog 13 #[v, u] w fun e w' => e = .returned (.bool b) ∧ Below w.heap.size w w' := by
  subst hb
  exact rsame_any P Q v u x y w hv hu hx hy

theorem sameRam_bool (g h g' h' : Nat) (l l' : List Int) (b : Bool) (w : World) (hb : decide (l = l') = b) (r : RamAt w g h l) (r' : RamAt w g' h' l') :
    Calls Try.prog 17 #[ptr g, ptr g'] w fun e w' => e = .returned (.bool b) ∧ Below w.heap.size w w' := by
  subst hb
  exact sameRam_any g h g' h' l l' w r r'

theorem Recs.nil_or {w : World} {n : Nat} {v : Value} {R : List (List Int)} (h : Recs w n v R) : ∃ A c, v = .slice A R.length c := by
  obtain ⟨A, c, hv, _⟩ := h
  exact ⟨A, c, hv⟩

set_option maxRecDepth 100000 in
set_option maxHeartbeats 4000000 in
theorem sramCells_main (N M : Nat) (v0 v1 : Value) (R0 R1 : List (List Int)) (K a n x : Int) (w : World) (hN0 : 1 ≤ N) (hN1 : N ≤ 200) (hM0 : 1 ≤ M) (hM1 : M ≤ 200)
    (hR0 : Recs w 4 v0 R0) (hR1 : Recs w 4 v1 R1) (hm0 : R0.length ≤ 40) (hm1 : R1.length ≤ 40) (hn : n ≤ 9223372036854775807) :
    Calls Try.prog 4 #[.int .i64 (N : Int), .int .i64 (M : Int), .agg #[v0, v1], opV K a n x] w fun e w' => e = .returned (.bool true) ∧ Below w.heap.size w w' := by
  obtain ⟨i0, hi0, hz0, hz1, hz2⟩ := info_parts cplx_info
  have HR0 := Lib.hid hR0
  have HR1 := Lib.hid hR1
  obtain ⟨A0, c0, rfl, hA0⟩ := hR0
  obtain ⟨A1, c1, rfl, hA1⟩ := hR1
  clear hA0 hA1
  obtain ⟨m0, hm0'⟩ : ∃ m, R0.length = m := ⟨_, rfl⟩
  obtain ⟨m1, hm1'⟩ : ∃ m, R1.length = m := ⟨_, rfl⟩
  rw [hm0'] at hm0 HR0 ⊢
  rw [hm1'] at hm1 HR1 ⊢
  have HM0 := Lib.hid hm0'; clear hm0'
  have HM1 := Lib.hid hm1'; clear hm1'
  have g1 : ¬ ((N : Int) < 1) := by omega
  have g2 : ¬ (200 < (N : Int)) := by omega
  have g3 : ¬ ((M : Int) < 1) := by omega
  have g4 : ¬ (200 < (M : Int)) := by omega
  have g5 : ¬ (40 < (m0 : Int)) := by omega
  have g6 : ¬ (40 < (m1 : Int)) := by omega
  unfold opV
  go_enter Try.func4, Try.ntmps4
  go_wp2_with fail
  refine (new_ram N _ hN0 (by omega)).mono ?_
  rintro e w1 ⟨g, h, rfl, r1, hg1, hh1, hb1⟩
  go_wp2_with fail
  refine (new_ram M _ hM0 (by omega)).mono ?_
  rintro e w2 ⟨g', h', rfl, r2, hg2, hh2, hb2⟩
  simp at hg1 hh1
  have hgl := r1.top.lt
  have hhl := r1.low.lt
  have rowA : Row w2 w.heap.size 41 [.slice A0 m0 c0, .slice A1 m1 c1] := by
    refine Row.of_below ?_ hb2 (by omega)
    refine Row.of_below ?_ hb1 (by simp; omega)
    exact (Row.new w 41 #[.slice A0 m0 c0, .slice A1 m1 c1]).of_grown (gr_alloc (gr_refl _ none) _) (by simp)
  have rowB : Row w2 (w.heap.size + 1) 33 (ints [K, a, n, x]) := by
    refine Row.of_below ?_ hb2 (by omega)
    refine Row.of_below ?_ hb1 (by simp)
    have := Row.new (w.alloc (.cells #[.slice A0 m0 c0, .slice A1 m1 c1] 41)) 33 (ints [K, a, n, x]).toArray
    rw [World.size_alloc] at this
    exact this
  have hbw : Below w.heap.size w w2 := below_on (below_on (((Below.refl _ _).alloc (Nat.le_refl _) _).alloc (by simp) _) hb1) hb2
  have ra := r1.below hb2
  clear r1 hb1 hb2
  have q0 : w2.cell? ⟨w.heap.size, 0, none⟩ = some (.slice A0 m0 c0) := rowA.cell 0
  unfold ptr
  go_wp2_with fail
  go_loopw [77] (fun i wr => ∃ (k : Nat) (l : List Int), k ≤ m0 ∧ i = .int .i64 k ∧ l.length ≤ 200 ∧ RamAt wr g h l ∧ RamAt wr g' h' (List.replicate M 0) ∧ Row wr w.heap.size 41 [.slice A0 m0 c0, .slice A1 m1 c1] ∧ Row wr (w.heap.size + 1) 33 (ints [K, a, n, x]) ∧ Below w.heap.size w wr) (fun i _ => m0 - (intOf i).toNat)
  case atStart => exact ⟨0, _, Nat.zero_le _, rfl, by simpa using hN1, ra, r2, rowA, rowB, hbw⟩
  case round =>
    clear ra r2 rowA rowB hbw q0
    obtain ⟨k, l, hk, rfl, hl200, r, r', rowA, rowB, hb⟩ := hrel
    have hsz := hb.size
    by_cases hlt : k < m0
    · obtain ⟨ad, c', kk, aa, nn, xx, hzs, hv, hz, d0, d1, d2, d3⟩ := Recs.four HR0.out hb (by rw [HM0.out]; exact hlt)
      rw [HM0.out] at hv
      injection hv with hv _ hv2
      subst hv hv2
      have hnn : nn ≤ 9223372036854775807 := (hz nn (by simp)).2
      clear hzs hz
      go_wp2_with fail
      refine (do_any g h l kk aa nn xx _ (r.below ((Below.refl _ _).alloc (Nat.le_refl _) _)) hnn).mono ?_
      rintro e w3 ⟨v3, rfl, hv3, r3, hg3⟩
      have hgg := gr_trans (gr_alloc (gr_refl wr (some h)) _) hg3
      have hdl := doL_len l kk aa nn xx
      clear hv3 d0 d1 d2 d3 r
      go_wp2
      go_roundw
      case rel => exact ⟨k + 1, _, by omega, by go_num, by omega, r3, r'.kept hgg (by simp; omega) (by simp; omega), rowA.of_grown hgg (by simp; omega), rowB.of_grown hgg (by simp; omega), below_gr hb hb.size hgg (by omega)⟩
      case measure => simp [intOf]; omega
    · obtain rfl : k = m0 := by omega
      have q1 : wr.cell? ⟨w.heap.size, 1, none⟩ = some (.slice A1 m1 c1) := rowA.cell 1
      go_wp2_with fail
      go_loopw [88] (fun i w4 => ∃ (j : Nat) (l2 : List Int), j ≤ m1 ∧ i = .int .i64 j ∧ l2.length ≤ 200 ∧ RamAt w4 g h l ∧ RamAt w4 g' h' l2 ∧ Row w4 (w.heap.size + 1) 33 (ints [K, a, n, x]) ∧ Below w.heap.size w w4) (fun i _ => m1 - (intOf i).toNat)
      case atStart => exact ⟨0, _, Nat.zero_le _, rfl, by simpa using hM1, r, r', rowB, hb⟩
      case round =>
        clear r r' rowA rowB hb hsz q1
        obtain ⟨j, l2, hj, rfl, hl2, r, r', rowB, hb⟩ := hrel
        have hsz := hb.size
        by_cases hlt2 : j < m1
        · obtain ⟨ad, c', kk, aa, nn, xx, hzs, hv, hz, d0, d1, d2, d3⟩ := Recs.four HR1.out hb (by rw [HM1.out]; exact hlt2)
          rw [HM1.out] at hv
          injection hv with hv _ hv2
          subst hv hv2
          have hnn : nn ≤ 9223372036854775807 := (hz nn (by simp)).2
          clear hzs hz
          go_wp2_with fail
          refine (do_any g' h' l2 kk aa nn xx _ (r'.below ((Below.refl _ _).alloc (Nat.le_refl _) _)) hnn).mono ?_
          rintro e w5 ⟨v5, rfl, hv5, r5, hg5⟩
          have hgg := gr_trans (gr_alloc (gr_refl _ (some h')) _) hg5
          have hdl := doL_len l2 kk aa nn xx
          clear hv5 d0 d1 d2 d3 r'
          go_wp2
          go_roundw
          case rel => exact ⟨j + 1, _, by omega, by go_num, by omega, r.kept hgg (by simp; omega) (by simp; omega), r5, rowB.of_grown hgg (by simp; omega), below_gr hb hb.size hgg (by omega)⟩
          case measure => simp [intOf]; omega
        · obtain rfl : j = m1 := by omega
          have hgl1 := r.top.lt
          have hhl1 := r.low.lt
          have hgl2 := r'.top.lt
          have hhl2 := r'.low.lt
          go_wp2_with fail
          refine (words_any g h l _ r).mono ?_
          rintro e w5 ⟨vx, rfl, hvx, hb5⟩
          go_wp2_with fail
          refine (words_any g' h' l2 _ (r'.below hb5)).mono ?_
          rintro e w6 ⟨vy, rfl, hvy, hb6⟩
          have ra := (r.below hb5).below hb6
          have rb := (r'.below hb5).below hb6
          have rowC := (rowB.of_grown (gr_below hb5 none) (by simp)).of_grown (gr_below hb6 none) (by simp)
          have hbw6 := below_on (below_on hb hb5) hb6
          have hx6 := (hvx.below hb6).weak (Q := fun _ => True) (fun _ _ _ => trivial)
          have hy6 := hvy.weak (Q := fun _ => True) (fun _ _ _ => trivial)
          clear r r' rowB hb hb5 hb6 hvx hvy hsz
          have HX := Lib.hid hx6
          obtain ⟨Ax, cx, rfl, hx⟩ := hx6
          obtain ⟨p, hp⟩ : ∃ p, l.length = p := ⟨_, rfl⟩
          rw [ints_len, hp] at hx HX ⊢
          have HP := Lib.hid hp
          have hx' := Lib.hid hx
          clear hx
          have hp200 : p ≤ 200 := by omega
          clear hp
          have hword := Lib.hid ra.word
          go_wp2_with fail
          go_loopw [19, 102] (fun v i wr => ∃ q : Nat, q ≤ p ∧ i = .int .i64 q ∧ wr.ownsRow w6.heap.size 43 1 v (cellsK l q).length (cellsK l q) ∧ Below w6.heap.size w6 wr) (fun _ i _ => p - (intOf i).toNat)
          case atStart => exact ⟨0, Nat.zero_le _, rfl, World.ownsRow_nil _ _ _ _, Below.refl _ _⟩
          case round =>
            obtain ⟨q, hq, rfl, hown, hb⟩ := hrel
            by_cases hlt3 : q < p
            · obtain ⟨gx, ox, rfl, _, hgx, hc⟩ := hx'.out (by omega)
              obtain ⟨z, hz⟩ : ∃ z, l[q]? = some z := ⟨_, List.getElem?_eq_getElem (by rw [HP.out]; exact hlt3)⟩
              have hcell := (hb.cell (p := ⟨gx, ox + q, none⟩) hgx).trans (hc q _ (ints_some hz))
              obtain ⟨z0, z1⟩ := hword.out z (List.mem_of_getElem? hz)
              have hkl := cellsK_len l q
              have HZ := Lib.hid hz; clear hz hc
              have hqb := hb.size
              by_cases hz0 : z = 0
              · subst hz0
                go_wp2
                go_roundw
                case rel => exact ⟨q + 1, by omega, by go_num, by rw [cellsK_skip HZ.out]; exact hown, hb⟩
                case measure => simp [intOf]; omega
              · have hze : (z != 0) = true := by simpa using hz0
                have HZ0 := Lib.hid hz0; clear hz0
                go_wp2_with (at_builtin
                             refine wpList_append_own _ rfl (.tmp 109) (.tmp 115) 42 rfl w6.heap.size 43 i0 _ 1 16 Try.underlying42 hi0 hz0 hz1 hz2 rfl (by omega) _ _ _ rfl (hown.alloc _)
                               ⟨_, 0, none⟩ 1 1 [cellV q z] rfl rfl (cell_one_new _ _ _) (by intro u hu; simp at hu; subst hu; rfl) (by unfold maxLen; omega) (by omega) (by simp; omega) ?_
                             intro v1 w1 hown1 hg1 _)
                go_roundw
                case rel =>
                  refine ⟨q + 1, by omega, by go_num, ?_, (hb.alloc hb.size _).grown hg1 (by simp; omega) (fun t ht => (hown.lt t ht).1)⟩
                  rw [cellsK_more HZ.out HZ0.out, List.length_append]
                  exact hown1
                case measure => simp [intOf]; omega
            · obtain rfl : q = p := by omega
              have ra1 := ra.below hb
              have rb1 := rb.below hb
              have rowD := rowC.of_grown (gr_below hb none) (by simp)
              have hbw1 := below_on hbw6 hb
              have hx1 := HX.out.below hb
              have hy1 := hy6.below hb
              have hw1 := (Lies.of_own hown).weak (Q := fun _ => True) (fun _ _ _ => trivial)
              have hsf := cellsK_selfish l q (by omega) hword.out
              have hkl := cellsK_len l q
              clear hown hb ra rb rowC hbw6 HX hy6 hx'
              have ce := cells_any g h l _ ra1
              rw [HP.out] at ce
              unfold ptr at ce
              have CE := Lib.hid ce; clear ce
              go_wp2_with fail
              refine CE.out.mono ?_
              rintro e w7 ⟨vc, rfl, hvc, hb7⟩
              clear CE
              go_wp2_with fail
              refine (cellSame_any _ _ _ _ _ _ hvc (hw1.below hb7) (by omega) hsf).mono ?_
              rintro e w8 ⟨rfl, hb8⟩
              have hb78 := below_on hb7 hb8
              have ra8 := ra1.below hb78
              have rb8 := rb1.below hb78
              have hx8 := hx1.below hb78
              have hy8 := hy1.below hb78
              have rowE := rowD.of_grown (gr_below hb78 none) (by simp)
              have hbw8 := below_on hbw1 hb78
              clear ra1 rb1 hx1 hy1 hw1 hsf hvc hb7 hb8 hb78 rowD hbw1
              obtain ⟨bb, hbb⟩ : ∃ bb, decide (l = l2) = bb := ⟨_, rfl⟩
              have sm := Lib.hid (sameRam_bool g h g' h' l l2 bb w8 hbb ra8 rb8)
              unfold ptr at sm
              have HB := Lib.hid hbb; clear hbb
              go_wp2_with fail
              refine sm.out.mono ?_
              rintro e w9 ⟨rfl, hb9⟩
              clear sm
              go_wp2_with fail
              refine (rsame_bool _ _ _ _ _ _ bb _ HB.out (hx8.below hb9) (hy8.below hb9) (by omega) (by omega)).mono ?_
              rintro e w10 ⟨rfl, hb10⟩
              have hb90 := below_on hb9 hb10
              have ra10 := ra8.below hb90
              have hx10 := hx8.below hb90
              have rowF := rowE.of_grown (gr_below hb90 none) (by simp)
              have hbw10 := below_on hbw8 hb90
              clear ra8 rb8 hx8 hy8 hb9 hb10 hb90 rowE hbw8 HB
              have sm := Lib.hid (sameRam_bool g h g h l l true w10 (by simp) ra10 ra10)
              unfold ptr at sm
              go_wp2_with fail
              refine sm.out.mono ?_
              rintro e w11 ⟨rfl, hb11⟩
              have ra11 := ra10.below hb11
              have hx11 := hx10.below hb11
              have rowG := rowF.of_grown (gr_below hb11 none) (by simp)
              have hbw11 := below_on hbw10 hb11
              clear sm ra10 hx10 hb11 rowF hbw10
              have cl := Lib.hid (clone_any g h l w11 ra11)
              unfold ptr at cl
              go_wp2_with fail
              refine cl.out.mono ?_
              rintro e w12 ⟨gc, hc, rfl, rc, hgc, hhc, hb12⟩
              have hsz11 := hbw11.size
              have ra12 := ra11.below hb12
              have hx12 := hx11.below hb12
              have rowH := rowG.of_grown (gr_below hb12 none) (by simp)
              have hbw12 := below_on hbw11 hb12
              have hxlt := hx11.weak (Q := (· < w11.heap.size)) (fun t ht _ => ht)
              have hx12' := hxlt.below hb12
              have hgA := ra11.top.lt
              have hhA := ra11.low.lt
              have hlG := rowG.lt
              clear cl ra11 hx11 rowG hbw11 hxlt hx12
              have sm := Lib.hid (sameRam_bool g h gc hc l l true w12 (by simp) ra12 rc)
              unfold ptr at sm ⊢
              go_wp2_with fail
              refine sm.out.mono ?_
              rintro e w13 ⟨rfl, hb13⟩
              have ra13 := ra12.below hb13
              have rc13 := rc.below hb13
              have hx13 := hx12'.below hb13
              have rowI := rowH.of_grown (gr_below hb13 none) (by simp)
              have hbw13 := below_on hbw12 hb13
              have hsz12 := hb12.size
              have hsz13 := hb13.size
              clear sm ra12 rc hx12' rowH hbw12 hb13 hb12
              have e0 : w13.cell? ⟨w.heap.size + 1, 0, none⟩ = some (.int .i64 K) := rowI.cell 0
              have e1 : w13.cell? ⟨w.heap.size + 1, 1, none⟩ = some (.int .i64 a) := rowI.cell 1
              have e2 : w13.cell? ⟨w.heap.size + 1, 2, none⟩ = some (.int .i64 n) := rowI.cell 2
              have e3 : w13.cell? ⟨w.heap.size + 1, 3, none⟩ = some (.int .i64 x) := rowI.cell 3
              go_wp2_with fail
              refine (do_any gc hc l K a n x w13 rc13 hn).mono ?_
              rintro e w14 ⟨v14, rfl, hv14, rc14, hg14⟩
              have ra14 := ra13.kept hg14 (by simp; omega) (by simp; omega)
              have hx14 := hx13.kept hg14 (fun t ht => by injection ht with ht; omega)
              have hbw14 := below_gr hbw13 hbw13.size hg14 (by omega)
              have hdl := doL_len l K a n x
              clear e0 e1 e2 e3 hv14 hg14 rc13 ra13 hx13 rowI hbw13
              have wa := Lib.hid (words_any g h l w14 ra14)
              unfold ptr at wa
              go_wp2_with fail
              refine wa.out.mono ?_
              rintro e w15 ⟨va, rfl, hva, hb15⟩
              clear wa
              go_wp2_with fail
              refine (rsame_bool _ _ _ _ l l true _ (by simp) hva (hx14.below hb15) (by omega) (by omega)).mono ?_
              rintro e w16 ⟨rfl, hb16⟩
              have hb56 := below_on hb15 hb16
              have ra16 := ra14.below hb56
              have rc16 := rc14.below hb56
              have hx16 := hx14.below hb56
              have hbw16 := below_on hbw14 hb56
              clear ra14 rc14 hx14 hva hb15 hb16 hb56 hbw14
              obtain ⟨bc, hbc⟩ : ∃ bc, decide (l = doL l K a n x) = bc := ⟨_, rfl⟩
              have sm := Lib.hid (sameRam_bool g h gc hc l _ bc w16 hbc ra16 rc16)
              unfold ptr at sm
              have HB := Lib.hid hbc; clear hbc
              go_wp2_with fail
              refine sm.out.mono ?_
              rintro e w17 ⟨rfl, hb17⟩
              clear sm
              have wc := Lib.hid (words_any gc hc _ w17 (rc16.below hb17))
              unfold ptr at wc
              go_wp2_with fail
              refine wc.out.mono ?_
              rintro e w18 ⟨vd, rfl, hvd, hb18⟩
              clear wc
              go_wp2_with fail
              refine (rsame_bool _ _ _ _ _ _ bc _ HB.out ((hx16.below hb17).below hb18) hvd (by omega) (by omega)).mono ?_
              rintro e w19 ⟨rfl, hb19⟩
              have hbw19 := below_on (below_on (below_on hbw16 hb17) hb18) hb19
              clear ra16 rc16 hx16 hvd hb17 hb18 hb19 hbw16 HB
              go_wp2_with fail
              refine (sram_alive _).mono ?_
              rintro e w20 ⟨rfl, hb20⟩
              go_wp2
              go_ret
              exact ⟨rfl, below_on hbw19 hb20⟩

set_option maxRecDepth 100000 in
set_option maxHeartbeats 2000000 in
theorem sramCells_any (n m : Int) (v0 v1 : Value) (R0 R1 : List (List Int)) (K a b x : Int) (w : World)
    (hR0 : Recs w 4 v0 R0) (hR1 : Recs w 4 v1 R1) (hm0 : R0.length ≤ maxLen) (hm1 : R1.length ≤ maxLen) (hb : b ≤ 9223372036854775807) :
    Calls Try.prog 4 #[.int .i64 n, .int .i64 m, .agg #[v0, v1], opV K a b x] w fun e w' => e = .returned (.bool true) ∧ Below w.heap.size w w' := by
  unfold maxLen at hm0 hm1
  by_cases hall : 1 ≤ n ∧ n ≤ 200 ∧ 1 ≤ m ∧ m ≤ 200 ∧ R0.length ≤ 40 ∧ R1.length ≤ 40
  · obtain ⟨h1, h2, h3, h4, h5, h6⟩ := hall
    obtain ⟨N, rfl⟩ := Int.eq_ofNat_of_zero_le (show 0 ≤ n by omega)
    obtain ⟨M, rfl⟩ := Int.eq_ofNat_of_zero_le (show 0 ≤ m by omega)
    exact sramCells_main N M v0 v1 R0 R1 K a b x w (by omega) (by omega) (by omega) (by omega) hR0 hR1 h5 h6 hb
  · have al := fun W => Lib.hid (sram_alive W)
    obtain ⟨A0, c0, rfl⟩ := hR0.nil_or
    obtain ⟨A1, c1, rfl⟩ := hR1.nil_or
    clear hR0 hR1
    obtain ⟨p, hp⟩ : ∃ p, R0.length = p := ⟨_, rfl⟩
    obtain ⟨q, hq⟩ : ∃ q, R1.length = q := ⟨_, rfl⟩
    rw [hp] at hm0 hall ⊢
    rw [hq] at hm1 hall ⊢
    clear hp hq
    unfold opV
    by_cases h1 : n < 1
    · clear hall
      go_enter Try.func4, Try.ntmps4
      go_wp2_with (go_at_call 7; refine (al _).out.mono ?_; rintro e w3 ⟨rfl, hb3⟩)
      go_ret
      exact ⟨rfl, below_on (((Below.refl _ _).alloc (Nat.le_refl _) _).alloc (by simp) _) hb3⟩
    · by_cases h2 : 200 < n
      · clear hall
        go_enter Try.func4, Try.ntmps4
        go_wp2_with (go_at_call 7; refine (al _).out.mono ?_; rintro e w3 ⟨rfl, hb3⟩)
        go_ret
        exact ⟨rfl, below_on (((Below.refl _ _).alloc (Nat.le_refl _) _).alloc (by simp) _) hb3⟩
      · by_cases h3 : m < 1
        · clear hall
          go_enter Try.func4, Try.ntmps4
          go_wp2_with (go_at_call 7; refine (al _).out.mono ?_; rintro e w3 ⟨rfl, hb3⟩)
          go_ret
          exact ⟨rfl, below_on (((Below.refl _ _).alloc (Nat.le_refl _) _).alloc (by simp) _) hb3⟩
        · by_cases h4 : 200 < m
          · clear hall
            go_enter Try.func4, Try.ntmps4
            go_wp2_with (go_at_call 7; refine (al _).out.mono ?_; rintro e w3 ⟨rfl, hb3⟩)
            go_ret
            exact ⟨rfl, below_on (((Below.refl _ _).alloc (Nat.le_refl _) _).alloc (by simp) _) hb3⟩
          · by_cases h5 : (40 : Int) < (p : Int)
            · clear hall
              go_enter Try.func4, Try.ntmps4
              go_wp2_with (go_at_call 7; refine (al _).out.mono ?_; rintro e w3 ⟨rfl, hb3⟩)
              go_ret
              exact ⟨rfl, below_on (((Below.refl _ _).alloc (Nat.le_refl _) _).alloc (by simp) _) hb3⟩
            · have h6 : (40 : Int) < (q : Int) := by omega
              clear hall
              go_enter Try.func4, Try.ntmps4
              go_wp2_with (go_at_call 7; refine (al _).out.mono ?_; rintro e w3 ⟨rfl, hb3⟩)
              go_ret
              exact ⟨rfl, below_on (((Below.refl _ _).alloc (Nat.le_refl _) _).alloc (by simp) _) hb3⟩

#print axioms sramCells_any
end Go.Proofs.Ytjdkbhmophnclaa
