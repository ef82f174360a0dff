/-
  The reference of layer 6: Swap, Is, New.
  Conditions: those that each theorem states.
-/
import Derived.Test.YtgoogclcpnfmkaaRBus5
namespace Go.Proofs.Ytgoogclcpnfmkaa
open Go.ChangeShapes Go.WideShapes Go.ChangeAt Go.RowKit

set_option maxRecDepth 100000 in
set_option maxHeartbeats 2000000 in
theorem rswap6_ok (P : Nat → Prop) (N : Nat) (l : List Int) (qs : List (List (Int × Int))) (vr vb : Value) (i : Nat) (q : List (Int × Int)) (a x : Int) (w : World) (r : RBus w P N l qs vr vb) (hq : qs[i]? = some q) (hP : ∀ b, w.heap.size ≤ b → P b) (hE : fillE l.length a 1 x = 0) :
    Calls Try.prog 35 #[.agg #[vr, vb], .int .i64 (i : Int), .int .i64 a, .int .i64 x] w (RBusP P N (fillL (drs l q) a 1 x) (qs.set i []) (fun b => .tuple #[b, .int .i64 (loadV (drs l q) a), .int .i64 0]) w) := by
  have r := r.off 2
  have hlm := r.size
  have hm := r.most
  have hi := lt_of_at hq
  have hfit := r.fit _ (List.mem_of_getElem? hq)
  have h16 := r.cap16
  obtain ⟨hok, hal⟩ := fillE_word hE hlm
  have HP' : Hid (∀ b, w.heap.size + 2 ≤ b → Off P w.heap.size 2 b) := Lib.hid (fun b hb => Off.of (hP b (by omega)) (.inr hb))
  obtain ⟨A, k, B, d, rfl, rfl⟩ := r.open_
  obtain ⟨w2, hw2⟩ : ∃ w2, boxW w (.slice A l.length k) (.slice B qs.length d) = w2 := ⟨_, rfl⟩
  have hb2 := boxW_below w (.slice A l.length k) (.slice B qs.length d)
  obtain ⟨r0, r1⟩ := boxW_rows w (.slice A l.length k) (.slice B qs.length d)
  rw [hw2] at hb2 r0 r1
  unfold boxW at hw2
  have r2 := r.below hb2
  have R2 := Lib.hid r2
  have HB2 := Lib.hid hb2
  have R0 := Lib.hid r0
  have R1 := Lib.hid r1
  have a0 := r0.cell 0
  have a1 := r0.cell 1
  simp only [List.getElem?_cons_zero, List.getElem?_cons_succ] at a0 a1
  have w1 := rwrong_ok (Off P w.heap.size 2) N l qs _ _ i a w2 r2 ⟨by omega, by omega⟩
  rw [(fillE_ok hE).1] at w1
  obtain ⟨α, rfl⟩ := Int.eq_ofNat_of_zero_le hok.1
  have hlv : loadV (drs l q) α = (drs l q).getD α 0 := loadV_in (by rw [drs_len]; exact (fillE_ok hE).1)
  obtain ⟨y, hy⟩ : ∃ y, (drs l q)[α]? = some y := ⟨_, List.getElem?_eq_getElem (by rw [drs_len]; omega)⟩
  have hlv2 : loadV (drs l q) α = y := by rw [hlv, List.getD_eq_getElem?_getD, hy]; rfl
  rw [hlv2]
  have W1 := Lib.hid w1
  have HQ := Lib.hid hq
  have HY := Lib.hid hy
  have HLM := Lib.hid hlm
  have x0' : 0 ≤ x := hok.2.2.1
  have x1' : x ≤ 65535 := hok.2.2.2
  obtain ⟨C, hC⟩ : ∃ C, qs.length = C := ⟨_, rfl⟩
  obtain ⟨n, hn⟩ : ∃ n, l.length = n := ⟨_, rfl⟩
  rw [hC, hn] at hw2 R0 R2 W1
  rw [hn] at a0 hal
  rw [hC] at a1 hi hm
  rw [hC, hn]
  have HC := Lib.hid hC
  have HN := Lib.hid hn
  clear r r0 r1 r2 w1 hb2 hq hok hE hP hfit hC hn hlm hlv hlv2 hy
  go_enter Try.func35, Try.ntmps35
  go_wp2_with fail
  refine W1.out.mono ?_
  rintro e w3 ⟨rfl, hb3⟩
  have t0 := R0.out.below hb3
  have t1 := R1.out.below hb3
  have x0 := t0.cell 0
  have x1 := t0.cell 1
  have y0 := t1.cell 0
  have y1 := t1.cell 1
  have f0 := t1.soft 0
  have f1 := t1.soft 1
  simp only [List.getElem?_cons_zero, List.getElem?_cons_succ] at x0 x1 y0 y1
  have HB3 := Lib.hid (below_on HB2.out hb3)
  have RR := Lib.hid (R2.out.below hb3)
  have T0 := Lib.hid t0
  have T1 := Lib.hid t1
  have l3 := t1.lt
  have fe := rfence6_any (Off P w.heap.size 2) N l qs (.slice A n k) (.slice B C d) i q w3 RR.out HQ.out (fun b hb' => HP'.out b (by omega))
  have FE := Lib.hid fe
  clear t0 t1 hb3 hw2 a0 a1 fe
  go_wp2_with fail
  refine (ris_yes _ _ x0' x1').mono ?_
  rintro e w' ⟨rfl, rfl⟩
  go_wp2_with fail
  refine FE.out.mono ?_
  rintro e w4 ⟨A4, n4, c4, B4, m4, d4, rfl, hr4, hb4⟩
  dsimp only
  have t0 := T0.out.below hb4
  have t1 := T1.out.below hb4
  have z0 := t0.cell 0
  have z1 := t0.cell 1
  have g0 := t0.soft 0
  have g1 := t0.soft 1
  simp only [List.getElem?_cons_zero, List.getElem?_cons_succ] at z0 z1
  obtain ⟨Ar, cr, hvr, hAr⟩ := hr4.ram
  rw [ints_len, drs_len, HN.out] at hvr hAr
  injection hvr with hv1 hv2 hv3
  subst hv1 hv2 hv3
  obtain ⟨gr, og, rfl, hPr, hgr, hcr⟩ := hAr (by omega)
  have hcell : w4.cell? ⟨gr, og + α, none⟩ = some (.int .i64 y) := hcr α _ (ints_some HY.out)
  have ng : gr ≠ w.heap.size := fun e => hPr.2 (by omega)
  have R4 := Lib.hid hr4
  have HB4 := Lib.hid (below_on HB3.out hb4)
  have T0' := Lib.hid t0
  have T1' := Lib.hid t1
  have l4 := t1.lt
  clear t0 t1 hr4 hb4 hAr hcr x0 x1 y0 y1 f0 f1
  go_wp2_with fail
  refine (rstore_any (Off P w.heap.size 2) (.slice (some ⟨gr, og, none⟩) n4 c4) (drs l q) α x _ (((R4.out.own (Nat.le_refl _) (by omega) 0 _).own (Nat.le_refl _) (by omega) 1 _).ram) (by rw [drs_len]; exact HLM.out) (fun b hb' => HP'.out b (by simp [World.setCell] at hb'; omega))).mono ?_
  rintro e w6 ⟨v6, rfl, hv6, hb6⟩
  have r6 := ((R4.out.own (Nat.le_refl _) (by omega) 0 (.slice (some ⟨gr, og, none⟩) n4 c4)).own (Nat.le_refl _) (by omega) 1 (.slice B4 m4 d4)).below hb6
  have t0 := ((T0'.out.put 0 (.slice (some ⟨gr, og, none⟩) n4 c4)).put 1 (.slice B4 m4 d4)).below hb6
  have t1 := ((T1'.out.far (p := ⟨w.heap.size, 0, none⟩) (by show w.heap.size + 1 ≠ w.heap.size; omega) (.slice (some ⟨gr, og, none⟩) n4 c4)).far (p := ⟨w.heap.size, 1, none⟩) (by show w.heap.size + 1 ≠ w.heap.size; omega) (.slice B4 m4 d4)).below hb6
  have hv6' := hv6
  obtain ⟨A6, c6, rfl, _⟩ := hv6'
  have x0 := t0.cell 0
  have x1 := t0.cell 1
  have y0 := t1.cell 0
  have y1 := t1.cell 1
  have g0 := t0.soft 0
  have f0 := t1.soft 0
  have f1 := t1.soft 1
  simp only [List.set_cons_zero, List.set_cons_succ, List.getElem?_cons_zero, List.getElem?_cons_succ] at x0 x1 y0 y1
  have hb6' : Below w.heap.size w w6 := below_on ((HB4.out.setCell (p := ⟨w.heap.size, 0, none⟩) (Nat.le_refl _) (.slice (some ⟨gr, og, none⟩) n4 c4)).setCell (p := ⟨w.heap.size, 1, none⟩) (Nat.le_refl _) (.slice B4 m4 d4)) hb6
  have R6 := Lib.hid (r6.words hv6 (fillL_len _ _ _ _))
  have HB6 := Lib.hid hb6'
  obtain ⟨n6, hn6⟩ : ∃ n6, (ints (fillL (drs l q) α 1 x)).length = n6 := ⟨_, rfl⟩
  rw [hn6] at R6 ⊢
  clear t0 t1 hv6 hb6 hb6' r6 g1 hn6
  go_wp2_with fail
  have hbF := (((HB6.out.setCell (p := ⟨w.heap.size, 0, none⟩) (Nat.le_refl _) (.slice A6 n6 c6)).setCell (p := ⟨w.heap.size + 1, 0, none⟩) (by show w.heap.size ≤ w.heap.size + 1; omega) (.slice A6 n6 c6)).setCell (p := ⟨w.heap.size + 1, 1, none⟩) (by show w.heap.size ≤ w.heap.size + 1; omega) (.slice B4 m4 d4))
  exact bodyPost_ret (v := .tuple #[.agg #[.slice A6 n6 c6, .slice B4 m4 d4], .int .i64 y, .int .i64 0]) (by simp [results, Try.results35, go_sem, *]) rfl ⟨A6, n6, c6, B4, m4, d4, rfl, (((R6.out.own (Nat.le_refl _) (by omega) 0 _).own (by omega) (by omega) 0 _).own (by omega) (by omega) 1 _).on, hbF⟩

set_option maxRecDepth 100000 in
set_option maxHeartbeats 2000000 in
theorem ris3y (n : Int) (w : World) (h0 : 1 ≤ n) (h1 : n ≤ 65536) :
    Calls Try.prog 32 #[.int .i64 n] w fun e w' => e = .returned (.bool true) ∧ w = w' := by
  go_enter Try.func32, Try.ntmps32
  go_wp2
  go_ret
  exact ⟨rfl, rfl⟩

set_option maxRecDepth 100000 in
set_option maxHeartbeats 2000000 in
theorem ris3n (n : Int) (w : World) (h : n < 1 ∨ 65536 < n) :
    Calls Try.prog 32 #[.int .i64 n] w fun e w' => e = .returned (.bool false) ∧ w = w' := by
  rcases h with h | h
  · have h' : decide (1 ≤ n) = false := by simp; omega
    go_enter Try.func32, Try.ntmps32
    go_wp2
    go_ret
    exact ⟨rfl, rfl⟩
  · have h0 : 1 ≤ n := by omega
    have h' : decide (n ≤ 65536) = false := by simp; omega
    go_enter Try.func32, Try.ntmps32
    go_wp2
    go_ret
    exact ⟨rfl, rfl⟩

set_option maxRecDepth 100000 in
set_option maxHeartbeats 2000000 in
theorem ris6_yes (c n b : Int) (w : World) (h0 : 1 ≤ c) (h1 : c ≤ 8) (h2 : 1 ≤ n) (h3 : n ≤ 65536) (h4 : 1 ≤ b) (h5 : b ≤ 16) :
    Calls Try.prog 12 #[.int .i64 c, .int .i64 n, .int .i64 b] w fun e w' => e = .returned (.bool true) ∧ w = w' := by
  go_enter Try.func12, Try.ntmps12
  go_wp2_with fail
  refine (ris3y _ _ h2 h3).mono ?_
  rintro e w' ⟨rfl, rfl⟩
  go_wp2_with fail
  refine (ris5_yes _ _ h4 h5).mono ?_
  rintro e w' ⟨rfl, rfl⟩
  go_wp2
  go_ret
  exact ⟨rfl, rfl⟩

set_option maxRecDepth 100000 in
set_option maxHeartbeats 2000000 in
theorem ris6_no (c n b : Int) (w : World) (h : ¬ (1 ≤ c ∧ c ≤ 8 ∧ 1 ≤ n ∧ n ≤ 65536 ∧ 1 ≤ b ∧ b ≤ 16)) :
    Calls Try.prog 12 #[.int .i64 c, .int .i64 n, .int .i64 b] w fun e w' => e = .returned (.bool false) ∧ w = w' := by
  by_cases h0 : 1 ≤ c
  · by_cases h1 : c ≤ 8
    · by_cases h2 : 1 ≤ n ∧ n ≤ 65536
      · have h3 : b < 1 ∨ 16 < b := by omega
        clear h
        go_enter Try.func12, Try.ntmps12
        go_wp2_with fail
        refine (ris3y _ _ h2.1 h2.2).mono ?_
        rintro e w' ⟨rfl, rfl⟩
        go_wp2_with fail
        refine (ris5_no _ _ h3).mono ?_
        rintro e w' ⟨rfl, rfl⟩
        go_wp2
        go_ret
        exact ⟨rfl, rfl⟩
      · have h3 : n < 1 ∨ 65536 < n := by omega
        clear h h2
        go_enter Try.func12, Try.ntmps12
        go_wp2_with fail
        refine (ris3n _ _ h3).mono ?_
        rintro e w' ⟨rfl, rfl⟩
        go_wp2
        go_ret
        exact ⟨rfl, rfl⟩
    · have h' : decide (c ≤ 8) = false := by simpa using h1
      clear h h1
      go_enter Try.func12, Try.ntmps12
      go_wp2
      go_ret
      exact ⟨rfl, rfl⟩
  · have h' : decide (1 ≤ c) = false := by simpa using h0
    clear h h0
    go_enter Try.func12, Try.ntmps12
    go_wp2
    go_ret
    exact ⟨rfl, rfl⟩

/-- k buffers with no stores. -/
theorem bps_more (N k : Nat) : flat (bps N (List.replicate k (.slice none 0 0))) ++ flat [(.int .i64 N, .slice none 0 0)] = flat (bps N (List.replicate (k + 1) (.slice none 0 0))) := by
  rw [← flat_append, List.replicate_succ']
  simp [bps]

/-- A bus of the reference in the making. -/
structure RMk (w wr : World) (n N k : Nat) (A : Option Addr) (c : Nat) : Prop where
  res : Row wr w.heap.size 34 [.slice none 0 0, .slice none 0 0]
  ram : Row wr (w.heap.size + 1) 3 (ints (List.replicate n 0))
  box : Row wr (w.heap.size + 1 + 1) 34 [.slice (some ⟨w.heap.size + 1, 0, none⟩) n n, .slice A k c]
  own : wr.ownsRow (w.heap.size + 3) 82 2 (.slice A k c) k (flat (bps N (List.replicate k (.slice none 0 0))))
  bel : Below w.heap.size w wr
  size : w.heap.size + 3 ≤ wr.heap.size

set_option maxRecDepth 100000 in
set_option maxHeartbeats 2000000 in
theorem rnew6_yes (P : Nat → Prop) (C n N : Nat) (w : World) (h0 : 1 ≤ C) (h1 : C ≤ 8) (hn0 : 1 ≤ n) (hn1 : n ≤ 65536) (hN1 : N ≤ 16) (hP : ∀ b, w.heap.size ≤ b → P b) :
    Calls Try.prog 13 #[.int .i64 (C : Int), .int .i64 (n : Int), .int .i64 (N : Int)] w (RBusP P N (List.replicate n 0) (List.replicate C []) id w) := by
  obtain ⟨i0, hi0, hz0, hz1, hz2⟩ := info_parts buf_info
  have hmk := fun W => run_make_row' (P := Try.prog) 31 3 (.int .i64 0) 8 Try.underlying31 int_info rfl .i64 .i64 n (by omega) (by omega) W
  go_enter Try.func13, Try.ntmps13
  go_wp2_with fail
  go_loopw [8] (fun z wr => ∃ k : Nat, k ≤ C ∧ z = .int .i64 k ∧ Hid (∃ A c, RMk w wr n N k A c)) (fun z _ => C - (intOf z).toNat)
  case atStart =>
    refine ⟨0, Nat.zero_le _, rfl, Lib.hid ⟨none, 0, ?_, ?_, ?_, World.ownsRow_nil _ _ _ _, below_on (below_al _ _) (below_on (below_al _ _) (below_al _ _)), by simp⟩⟩
    · exact (((Row.new w 34 #[.slice none 0 0, .slice none 0 0]).below (below_al _ _)).below (below_al _ _))
    · have := ((Row.new (w.alloc (.cells #[.slice none 0 0, .slice none 0 0] 34)) 3 (madeCells #[Value.int .i64 0] n)).below (below_al _ (.cells #[.slice (some ⟨w.heap.size + 1, 0, none⟩) n n, .slice none 0 0] 34)))
      rw [ints_zeros, size_al] at this
      exact this
    · have := Row.new ((w.alloc (.cells #[.slice none 0 0, .slice none 0 0] 34)).alloc (.cells (madeCells #[Value.int .i64 0] n) 3)) 34 #[.slice (some ⟨w.heap.size + 1, 0, none⟩) n n, .slice none 0 0]
      rw [size_al, size_al] at this
      exact this
  case round =>
    obtain ⟨k, hk, rfl, hs⟩ := hrel
    obtain ⟨A, c, m⟩ := hs.out
    have x0 := m.box.cell 0
    have x1 := m.box.cell 1
    simp only [List.getElem?_cons_zero, List.getElem?_cons_succ] at x0 x1
    have g1 := m.box.soft 1
    have hsz := m.size
    have M := Lib.hid m
    clear hs m
    by_cases hlt : k < C
    · have ES := Lib.hid (bps_more N k)
      have l0 : w.heap.size + 1 + 1 < wr.heap.size := by omega
      have m0 : w.heap.size + 1 + 1 ≠ wr.heap.size := by omega
      go_wp2_with (first
        | (at_builtin
           refine app2_walk _ rfl (.tmp 18) (.tmp 21) 32 rfl (w.heap.size + 3) 82 i0 _ 32 Try.underlying32 hi0 hz0 hz1 hz2 rfl (.slice A k c) k (flat (bps N (List.replicate k (.slice none 0 0)))) rfl (M.out.own.alloc _) (· = wr.heap.size) (some ⟨wr.heap.size, 0, none⟩) 1 1 [(.int .i64 N, .slice none 0 0)] rfl (Two.one _ _ _ _ _) (Nat.le_refl _) (by intro u hu; simp only [flat, List.mem_cons, List.not_mem_nil, or_false] at hu; rcases hu with rfl | rfl <;> rfl) (by unfold maxLen; omega) (by omega) (by simp; omega) ?_
           intro v2 w2 hown2 hg2 hat2
           rw [ES.out] at hown2
           obtain ⟨g', cap', rfl, hbg, hlt'⟩ := hown2.form (by omega)
           have hne : ∀ b, b < w.heap.size + 3 → some b ≠ (Value.slice A k c).ownBlock := (fun b hb e => by have := (M.out.own.lt b e.symm).1; omega)
           have t0 := (M.out.res.below (below_al wr (.cells #[.int .i64 N, .slice none 0 0] 82))).of_grown hg2 (hne _ (by omega))
           have t1 := (M.out.ram.below (below_al wr (.cells #[.int .i64 N, .slice none 0 0] 82))).of_grown hg2 (hne _ (by omega))
           have t2 := (M.out.box.below (below_al wr (.cells #[.int .i64 N, .slice none 0 0] 82))).of_grown hg2 (hne _ (by omega))
           have hb2 : Below w.heap.size w w2 := (M.out.bel.alloc M.out.bel.size _).grown hg2 (by simp; omega) (fun j hj => by have := (M.out.own.lt j hj).1; omega)
           have hs2 := hg2.size
           simp at hs2
           have d1 := t2.cell 1
           simp only [List.getElem?_cons_zero, List.getElem?_cons_succ] at d1
           have s1 := t2.soft 1
           have T0 := Lib.hid t0
           have T1 := Lib.hid t1
           have T2 := Lib.hid t2
           have HO2 := Lib.hid hown2
           have HB2 := Lib.hid hb2
           clear t0 t1 t2 hown2 hg2 hat2 hb2 hne))
      go_roundw
      case rel =>
        have hO : Only (fun b => b = w.heap.size + 1 + 1) w2 (w2.setCell ⟨w.heap.size + 1 + 1, 1, none⟩ (.slice (some ⟨g', 0, none⟩) (k + 1) cap')) := (Only.refl (fun b => b = w.heap.size + 1 + 1) w2).setCell (p := ⟨w.heap.size + 1 + 1, 1, none⟩) (.inl rfl) _
        exact ⟨k + 1, by omega, by go_num, Lib.hid ⟨some ⟨g', 0, none⟩, cap', T0.out.only hO (by omega), T1.out.only hO (by omega), T2.out.put 1 _, own_only HO2.out hO (fun b hb e => by simp [Value.ownBlock] at hb; omega), HB2.out.setCell (p := ⟨w.heap.size + 1 + 1, 1, none⟩) (by show w.heap.size ≤ w.heap.size + 1 + 1; omega) _, by simp [World.setCell]; omega⟩⟩
      case measure => simp [intOf]; omega
    · obtain rfl : k = C := by omega
      have y0 := M.out.res.cell 0
      have y1 := M.out.res.cell 1
      simp only [List.getElem?_cons_zero, List.getElem?_cons_succ] at y0 y1
      have f0 := M.out.res.soft 0
      have f1 := M.out.res.soft 1
      go_wp2_with fail
      have hO := ((Only.refl (fun b => b = w.heap.size) wr).setCell (p := ⟨w.heap.size, 0, none⟩) (.inl rfl) (.slice (some ⟨w.heap.size + 1, 0, none⟩) n n)).setCell (p := ⟨w.heap.size, 1, none⟩) (.inl rfl) (.slice A k c)
      have own2 := own_only M.out.own hO (fun b hb e => by have := (M.out.own.lt b hb).1; omega)
      have ram2 := M.out.ram.only hO (by omega)
      have hl := Lies.of_row (P := P) ram2 (hP _ (by omega)) n
      rw [ints_len, List.length_replicate] at hl
      refine bodyPost_ret (v := .agg #[.slice (some ⟨w.heap.size + 1, 0, none⟩) n n, .slice A k c]) (by simp [results, Try.results13, go_sem, *]) rfl ⟨_, n, n, A, k, c, rfl, ⟨hl, ⟨List.replicate k (.slice none 0 0), ?_, by simp, fun i v q h2 h3 => ?_⟩, CapOk.of_own own2, by simpa using hn1, by simpa using h1, by simpa using h0, fun q hq => by rw [List.eq_of_mem_replicate hq]; simp, hN1⟩, (M.out.bel.setCell (p := ⟨w.heap.size, 0, none⟩) (Nat.le_refl _) _).setCell (p := ⟨w.heap.size, 1, none⟩) (Nat.le_refl _) _⟩
      · exact (Two.of_own own2).weak (fun b _ hb => hP b (by have := (own2.lt b hb).1; omega))
      · rw [List.getElem?_replicate] at h2 h3
        by_cases hik : i < k
        · rw [if_pos hik] at h2 h3
          injection h2 with h2
          injection h3 with h3
          subst h2 h3
          exact ⟨Two.nil_ _ _, rfl⟩
        · rw [if_neg hik] at h2
          cases h2

#print axioms rswap6_ok
#print axioms ris6_no
#print axioms rnew6_yes
end Go.Proofs.Ytgoogclcpnfmkaa
