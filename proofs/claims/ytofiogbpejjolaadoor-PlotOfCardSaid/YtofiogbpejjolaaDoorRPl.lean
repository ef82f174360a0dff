/-
  Layer 13 (plot): the reference's Ring, Right, Size, Words, Base.
  Conditions: those that each theorem states.
-/
import Derived.Test.YtofiogbpejjolaaDoorPl5
namespace Go.Proofs.YtofiogbpejjolaaDoor
open Go.ChangeShapes Go.WideShapes Go.ChangeAt Go.RowKit

set_option maxRecDepth 100000 in
set_option maxHeartbeats 400000 in
theorem rring13_any (n : Int) (w : World) :
    Calls Tryd.prog 25 #[.int .i64 n] w fun e w' => e = .returned (.bool (decide (okRing n))) ∧ w = w' := by
  obtain ⟨o, ho⟩ : ∃ o, decide (okRing n) = o := ⟨_, rfl⟩
  have HO := Lib.hid ho
  rw [ho]
  clear ho
  go_enter Tryd.func25, Tryd.ntmps25
  go_wp2
  go_loop [3] (fun p => ∃ x : Int, p = .int .i64 x ∧ 2 ≤ x ∧ x ≤ 128 ∧ Hid ((okRing x ∨ x = 128) ∧ ∀ y, okRing y → y < x → n ≠ y)) (fun p => 128 - (intOf p).toNat)
  case atStart => exact ⟨2, rfl, by omega, by omega, Lib.hid ⟨Or.inl (Or.inl rfl), fun y hy hlt => by have := hy.bd; omega⟩⟩
  case round =>
    obtain ⟨x, rfl, hx1, hx2, HX⟩ := hrel
    by_cases hx : x ≤ 64
    · have t0 : decide (x ≤ 64) = true := by simpa using hx
      have hxr : okRing x := by
        rcases HX.out.1 with h | h
        · exact h
        · omega
      by_cases he : x = n
      · have t1 : (x == n) = true := beq_iff_eq.2 he
        obtain rfl : o = true := by rw [← HO.out]; exact decide_eq_true (he ▸ hxr)
        clear he hxr
        go_wp2
        go_ret
        exact ⟨rfl, rfl⟩
      · have t1 : (x == n) = false := beq_eq_false_iff_ne.2 he
        have HX2 := Lib.hid (show (okRing (2 * x) ∨ 2 * x = 128) ∧ ∀ y, okRing y → y < 2 * x → n ≠ y from by
          have hx2 := HX.out.2
          unfold okRing at hxr ⊢
          refine ⟨by omega, fun y hy hlt e => ?_⟩
          subst e
          by_cases hnx : n < x
          · exact hx2 n hy hnx rfl
          · omega)
        clear he hxr
        go_wp2
        go_round
        case rel => exact ⟨2 * x, by go_num, by omega, by omega, HX2⟩
        case measure => simp [intOf]; omega
    · have t0 : decide (x ≤ 64) = false := by simpa using hx
      obtain rfl : o = false := by
        rw [← HO.out]
        refine decide_eq_false fun h => ?_
        rcases HX.out.1 with h2 | h2
        · have := h2.bd; omega
        · exact HX.out.2 n h (by have := h.bd; omega) rfl
      go_wp2
      go_ret
      exact ⟨rfl, rfl⟩

set_option maxRecDepth 100000 in
set_option maxHeartbeats 1000000 in
theorem rright13_any (c r b : Int) (w : World) :
    Calls Tryd.prog 11 #[cfV c r b] w fun e w' => e = .returned (.bool (decide (okConf c r b))) ∧ Below w.heap.size w w' := by
  unfold cfV
  obtain ⟨o, ho⟩ : ∃ o, decide (okRing r) = o := ⟨_, rfl⟩
  have RG := Lib.hid (fun W => rring13_any r W)
  rw [ho] at RG
  have hq : decide (okConf c r b) = (decide (2 ≤ c) && decide (c ≤ 8) && o && decide (1 ≤ b) && decide (b ≤ 16)) := by
    rw [← ho]
    unfold okConf
    by_cases k0 : 2 ≤ c <;> by_cases k1 : c ≤ 8 <;> by_cases k2 : okRing r <;> by_cases k3 : 1 ≤ b <;> by_cases k4 : b ≤ 16 <;> simp [k0, k1, k2, k3, k4]
  obtain ⟨o0, h0⟩ : ∃ x, decide (2 ≤ c) = x := ⟨_, rfl⟩
  obtain ⟨o1, h1⟩ : ∃ x, decide (c ≤ 8) = x := ⟨_, rfl⟩
  obtain ⟨o3, h3⟩ : ∃ x, decide (1 ≤ b) = x := ⟨_, rfl⟩
  obtain ⟨o4, h4⟩ : ∃ x, decide (b ≤ 16) = x := ⟨_, rfl⟩
  rw [h0, h1, h3, h4] at hq
  rw [hq]
  clear hq ho
  cases o0
  · go_enter Tryd.func11, Tryd.ntmps11
    go_wp2
    go_ret
    exact ⟨rfl, by go_grown⟩
  cases o1
  · go_enter Tryd.func11, Tryd.ntmps11
    go_wp2
    go_ret
    exact ⟨rfl, by go_grown⟩
  cases o <;> cases o3 <;> cases o4
  all_goals
    go_enter Tryd.func11, Tryd.ntmps11
    go_wp2_with fail
    refine (RG.out _).mono ?_
    rintro e w' ⟨rfl, rfl⟩
    go_wp2
    go_ret
    exact ⟨rfl, by go_grown⟩

set_option maxRecDepth 100000 in
set_option maxHeartbeats 400000 in
theorem rsize13_any (r : Int) (w : World) :
    Calls Tryd.prog 13 #[.int .i64 r] w fun e w' => e = .returned (.int .i64 (sizeP r)) ∧ w = w' := by
  have RG := Lib.hid (fun W => rring13_any r W)
  by_cases h : okRing r
  · have hbd := h.bd
    obtain ⟨hb1, hb2⟩ := hbd
    rw [show sizeP r = 4 + 11 * r from if_pos h]
    rw [decide_eq_true h] at RG
    clear h
    go_enter Tryd.func13, Tryd.ntmps13
    go_wp2_with fail
    refine (RG.out _).mono ?_
    rintro e w' ⟨rfl, rfl⟩
    go_wp2
    go_ret
    have EW : 4 + r + r + r + 8 * r = 4 + 11 * r := by omega
    exact ⟨by simp [EW], rfl⟩
  · rw [show sizeP r = 0 from if_neg h]
    rw [decide_eq_false h] at RG
    clear h
    go_enter Tryd.func13, Tryd.ntmps13
    go_wp2_with fail
    refine (RG.out _).mono ?_
    rintro e w' ⟨rfl, rfl⟩
    go_wp2
    go_ret
    exact ⟨rfl, rfl⟩

theorem rsize13_q (r : Int) (w : World) (m : Nat) : Calls Tryd.prog 13 #[.int .i64 r] (w.drewN m) fun e w' => e = .returned (.int .i64 (sizeP r)) ∧ ∃ k, w' = w.drewN k :=
  (rsize13_any r _).mono fun _ _ ⟨he, hw⟩ => ⟨he, m, hw.symm⟩

set_option maxRecDepth 100000 in
set_option maxHeartbeats 1000000 in
theorem rwords13_any (c r b : Int) (w : World) :
    Calls Tryd.prog 15 #[cfV c r b] w fun e w' => e = .returned (.int .i64 (wordsP c r b)) ∧ Below w.heap.size w w' := by
  have RT := Lib.hid (rright13_any c r b)
  have SZ := Lib.hid (rsize13_q r)
  unfold cfV at RT ⊢
  by_cases h : okConf c r b
  · have W0 := Lib.hid (decide_eq_true h)
    have hc : 2 ≤ c ∧ c ≤ 8 := ⟨h.1, h.2.1⟩
    have hp := pairs_bd hc
    have hw := words_bd hc h.2.2.1
    have hr := h.2.2.1.bd
    have e1 : sizeP r = 4 + 11 * r := if_pos h.2.2.1
    rw [show wordsP c r b = c * (c - 1) * (4 + 11 * r) from if_pos h]
    rw [e1] at SZ
    obtain ⟨hc1, hc2⟩ := hc
    obtain ⟨hp1, hp2⟩ := hp
    obtain ⟨hw1, hw2⟩ := hw
    obtain ⟨hr1, hr2⟩ := hr
    clear h e1
    obtain ⟨n, hn⟩ : ∃ n, c * (c - 1) = n := ⟨_, rfl⟩
    obtain ⟨s, hs⟩ : ∃ s, 4 + 11 * r = s := ⟨_, rfl⟩
    rw [hs] at SZ
    rw [hn, hs] at hw1 hw2 ⊢
    rw [hn] at hp1 hp2
    obtain ⟨m, hm⟩ : ∃ m, n * s = m := ⟨_, rfl⟩
    rw [hm] at hw1 hw2 ⊢
    go_enter Tryd.func15, Tryd.ntmps15
    go_wp2_with fail
    refine (RT.out _).mono ?_
    rintro e w1 ⟨rfl, hb1⟩
    rw [W0.out]
    have r1 := (Row.new w 23 #[.int .i64 c, .int .i64 r, .int .i64 b]).below hb1
    have c0 := r1.cell 0
    have c1 := r1.cell 1
    simp only [List.getElem?_cons_zero, List.getElem?_cons_succ] at c0 c1
    have HB1 := Lib.hid (below_on (below_al w (.cells #[.int .i64 c, .int .i64 r, .int .i64 b] 23)) hb1)
    clear r1 hb1
    go_wp2
    go_quiet ((go_at_call 13; exact SZ.out _ _))
    go_wp2
    go_ret
    exact ⟨by simp [*], below_dn HB1.out _⟩
  · have W0 := Lib.hid (decide_eq_false h)
    rw [show wordsP c r b = 0 from if_neg h]
    clear h
    go_enter Tryd.func15, Tryd.ntmps15
    go_wp2_with fail
    refine (RT.out _).mono ?_
    rintro e w1 ⟨rfl, hb1⟩
    rw [W0.out]
    have HB1 := Lib.hid (below_on (below_al w (.cells #[.int .i64 c, .int .i64 r, .int .i64 b] 23)) hb1)
    clear hb1
    go_wp2
    go_ret
    exact ⟨rfl, HB1.out⟩

theorem rank_step {c : Int} {a b : Nat} : rankP c a ((b + 1 : Nat) : Int) = if a = b then rankP c a b else rankP c a b + 1 := by
  unfold rankP
  by_cases h : a = b
  · subst h
    rw [if_pos rfl, if_pos (by omega), if_neg (by omega)]
    omega
  · rw [if_neg h]
    by_cases k : a < b
    · rw [if_pos (by omega), if_pos (by omega)]; omega
    · rw [if_neg (by omega), if_neg (by omega)]; omega

theorem rank_turn {c : Int} {a : Nat} {b : Nat} (hb : (b : Int) = c) (ha : (a : Int) < c) : rankP c a b = rankP c ((a + 1 : Nat) : Int) 0 := by
  unfold rankP
  rw [if_pos (by omega), if_neg (by omega), hb]
  have : (((a + 1 : Nat) : Int)) * (c - 1) = (a : Int) * (c - 1) + (c - 1) := by
    rw [show (((a + 1 : Nat)) : Int) = (a : Int) + 1 from by omega, Int.add_mul, Int.one_mul]
  omega

theorem rank_le {c : Int} {a b : Nat} (hc : 2 ≤ c ∧ c ≤ 8) (ha : (a : Int) < c) (hb : (b : Int) ≤ c) : 0 ≤ rankP c a b ∧ rankP c a b ≤ 56 := by
  unfold rankP
  rcases cores_of hc with rfl | rfl | rfl | rfl | rfl | rfl | rfl <;> split <;> omega

set_option maxRecDepth 100000 in
set_option maxHeartbeats 2000000 in
theorem rbase13_any (c r b f t : Int) (w : World) :
    Calls Tryd.prog 9 #[cfV c r b, .int .i64 f, .int .i64 t] w fun e w' => e = .returned (.tuple #[.int .i64 (ofB c r b f t), .bool (decide (ofOk c r b f t))]) ∧ Below w.heap.size w w' := by
  have RT := Lib.hid (rright13_any c r b)
  have SZ := Lib.hid (fun W => rsize13_any r W)
  unfold cfV at RT ⊢
  by_cases hC : okConf c r b
  · have W0 := Lib.hid (decide_eq_true hC)
    have hc : 2 ≤ c ∧ c ≤ 8 := ⟨hC.1, hC.2.1⟩
    have hr := hC.2.2.1.bd
    have e1 : sizeP r = 4 + 11 * r := if_pos hC.2.2.1
    rw [e1] at SZ
    have HOK := Lib.hid (show okPair c f t → ofB c r b f t = rankP c f t * (4 + 11 * r) ∧ decide (ofOk c r b f t) = true from fun h => ⟨if_pos ⟨hC, h⟩, decide_eq_true ⟨hC, h⟩⟩)
    have HNO := Lib.hid (show ¬ okPair c f t → ofB c r b f t = 0 ∧ decide (ofOk c r b f t) = false from fun h => ⟨if_neg fun g => h g.2, decide_eq_false fun g => h g.2⟩)
    have HLE := Lib.hid (fun (x y : Nat) (hx : (x : Int) < c) (hy : (y : Int) ≤ c) => rank_le hc hx hy)
    obtain ⟨S, eS⟩ : ∃ s, 4 + 11 * r = s := ⟨_, rfl⟩
    have hS1 : 0 ≤ S := by omega
    have hS2 : S ≤ 708 := by omega
    rw [eS] at SZ HOK
    obtain ⟨V, eV⟩ : ∃ s, ofB c r b f t = s := ⟨_, rfl⟩
    obtain ⟨O, eO⟩ : ∃ s, decide (ofOk c r b f t) = s := ⟨_, rfl⟩
    rw [eV, eO] at HOK HNO ⊢
    obtain ⟨hc1, hc2⟩ := hc
    clear hC hr e1 eS eV eO
    go_enter Tryd.func9, Tryd.ntmps9
    go_wp2_with fail
    refine (RT.out _).mono ?_
    rintro e w1 ⟨rfl, hb1⟩
    rw [W0.out]
    have HR := Lib.hid ((Row.new w 23 #[.int .i64 c, .int .i64 r, .int .i64 b]).below hb1)
    have HB := Lib.hid (below_on (below_al w (.cells #[.int .i64 c, .int .i64 r, .int .i64 b] 23)) hb1)
    clear hb1 RT W0
    go_wp2
    go_loopw [8, 9] (fun v i wr => ∃ k : Nat, (k : Int) ≤ c ∧ i = .int .i64 k ∧ (∃ x : Int, v = .int .i64 x ∧ 0 ≤ x ∧ x ≤ 100000 ∧ Hid ((k : Int) < c → x = rankP c k 0 * S)) ∧ wr = w1 ∧ Hid (okPair c f t → (k : Int) ≤ f)) (fun _ i _ => 8 - (intOf i).toNat)
    case atStart => exact ⟨0, by omega, rfl, ⟨0, rfl, by omega, by omega, Lib.hid (fun _ => by simp [rankP])⟩, rfl, Lib.hid (fun h => h.1)⟩
    case round =>
      obtain ⟨k, hk, rfl, ⟨x, rfl, hx1, hx2, HX⟩, rfl, HF⟩ := hrel
      have c0 := HR.out.cell 0
      have c1 := HR.out.cell 1
      simp only [List.getElem?_cons_zero, List.getElem?_cons_succ] at c0 c1
      by_cases hkc : (k : Int) < c
      · have t0 : decide ((k : Int) < c) = true := by simpa using hkc
        have hx0 := HX.out hkc
        have hkc8 : k < 8 := by omega
        obtain ⟨wo, rfl⟩ : ∃ wo, wo = wr := ⟨_, rfl⟩
        go_wp2
        go_loopw [8, 10] (fun v i wi => ∃ j : Nat, (j : Int) ≤ c ∧ i = .int .i64 j ∧ (∃ y : Int, v = .int .i64 y ∧ 0 ≤ y ∧ y ≤ 40000 ∧ Hid (y = rankP c k j * S)) ∧ wi = wo ∧ Hid (okPair c f t → (k : Int) < f ∨ ((k : Int) = f ∧ (j : Int) ≤ t))) (fun _ i _ => 8 - (intOf i).toNat)
        case atStart => exact ⟨0, by omega, rfl, ⟨x, rfl, hx1, by
          have := HLE.out k 0 hkc (by omega)
          rw [hx0]
          exact Int.le_trans (Int.mul_le_mul this.2 hS2 hS1 (by omega)) (by omega), Lib.hid hx0⟩, rfl, Lib.hid (fun h => by
            have := HF.out h
            have := h.2.2.1
            omega)⟩
        case round =>
          obtain ⟨j, hj, rfl, ⟨y, rfl, hy1, hy2, HY⟩, rfl, HG⟩ := hrel
          have c0 := HR.out.cell 0
          have c1 := HR.out.cell 1
          simp only [List.getElem?_cons_zero, List.getElem?_cons_succ] at c0 c1
          by_cases hjc : (j : Int) < c
          · have t1 : decide ((j : Int) < c) = true := by simpa using hjc
            have hjc8 : j < 8 := by omega
            have hrs := rank_step (c := c) (a := k) (b := j)
            by_cases hkj : k = j
            · have t2 : ((k : Int) == (j : Int)) = true := by simp; omega
              have t3 : (k == j) = true := by simpa using hkj
              have HY2 := Lib.hid (show y = rankP c k ((j + 1 : Nat) : Int) * S from by rw [hrs, if_pos hkj]; exact HY.out)
              have HG2 := Lib.hid (show okPair c f t → (k : Int) < f ∨ ((k : Int) = f ∧ ((j + 1 : Nat) : Int) ≤ t) from fun h => by
                have h1 := HG.out h
                have h2 := h.2.2.2.2
                omega)
              clear hrs hkj
              go_wp2
              go_roundw
              case rel => exact ⟨j + 1, by omega, by go_num, ⟨y, rfl, hy1, hy2, HY2⟩, (by first | rfl | trivial), HG2⟩
              case measure => simp [intOf]; omega
            · have t2 : ((k : Int) == (j : Int)) = false := by simp; omega
              have t3 : (k == j) = false := by simpa using hkj
              by_cases hp : (k : Int) = f ∧ (j : Int) = t
              · have t4 : ((k : Int) == f) = true := beq_iff_eq.2 hp.1
                have t5 : ((j : Int) == t) = true := beq_iff_eq.2 hp.2
                have hP : okPair c f t := ⟨by omega, by omega, by omega, by omega, by omega⟩
                obtain ⟨hV, rfl⟩ := HOK.out hP
                obtain rfl : V = y := by rw [hV, HY.out, hp.1, hp.2]
                clear hp hrs hP hV
                go_wp2
                go_ret2
                exact ⟨rfl, HB.out⟩
              · have HG2 := Lib.hid (show okPair c f t → (k : Int) < f ∨ ((k : Int) = f ∧ ((j + 1 : Nat) : Int) ≤ t) from fun h => by
                  have h1 := HG.out h
                  omega)
                rw [if_neg hkj] at hrs
                have hle := (HLE.out k (j + 1) hkc (by omega)).2
                have hy3 : y + S = rankP c k ((j + 1 : Nat) : Int) * S := by rw [hrs, Int.add_mul, Int.one_mul, ← HY.out]
                have hy4 : y + S ≤ 40000 := by
                  rw [hy3]
                  exact Int.le_trans (Int.mul_le_mul hle hS2 hS1 (by omega)) (by omega)
                have HY2 := Lib.hid hy3
                clear hrs hle hy3
                by_cases hkf : (k : Int) = f
                · have t4 : ((k : Int) == f) = true := beq_iff_eq.2 hkf
                  have t5 : ((j : Int) == t) = false := beq_eq_false_iff_ne.2 fun h => hp ⟨hkf, h⟩
                  clear hp hkf hkj
                  go_wp2_with fail
                  refine (SZ.out _).mono ?_
                  rintro e w' ⟨rfl, rfl⟩
                  go_wp2
                  go_roundw
                  case rel => exact ⟨j + 1, by omega, by go_num, ⟨y + S, rfl, by omega, hy4, HY2⟩, (by first | rfl | trivial), HG2⟩
                  case measure => simp [intOf]; omega
                · have t4 : ((k : Int) == f) = false := beq_eq_false_iff_ne.2 hkf
                  clear hp hkf hkj
                  go_wp2_with fail
                  refine (SZ.out _).mono ?_
                  rintro e w' ⟨rfl, rfl⟩
                  go_wp2
                  go_roundw
                  case rel => exact ⟨j + 1, by omega, by go_num, ⟨y + S, rfl, by omega, hy4, HY2⟩, (by first | rfl | trivial), HG2⟩
                  case measure => simp [intOf]; omega
          · have t1 : decide ((j : Int) < c) = false := by simpa using hjc
            have hjc2 : (j : Int) = c := by omega
            have HX2 := Lib.hid (show ((k + 1 : Nat) : Int) < c → y = rankP c ((k + 1 : Nat) : Int) 0 * S from fun _ => by rw [HY.out, rank_turn hjc2 hkc])
            have HF2 := Lib.hid (show okPair c f t → ((k + 1 : Nat) : Int) ≤ f from fun h => by
              have h1 := HG.out h
              have h2 := h.2.2.2.1
              omega)
            clear hjc hjc2 hx0
            go_wp2
            go_roundw
            case rel => exact ⟨k + 1, by omega, by go_num, ⟨y, rfl, hy1, by omega, HX2⟩, (by first | rfl | trivial), HF2⟩
            case measure => simp [intOf]; omega
      · have t0 : decide ((k : Int) < c) = false := by simpa using hkc
        obtain ⟨rfl, rfl⟩ := HNO.out (fun h => by have := HF.out h; have := h.2.1; omega)
        go_wp2
        go_ret2
        exact ⟨rfl, HB.out⟩
  · have W0 := Lib.hid (decide_eq_false hC)
    have hn : ¬ ofOk c r b f t := fun h => hC h.1
    rw [show ofB c r b f t = 0 from if_neg hn, decide_eq_false hn]
    clear hC hn
    go_enter Tryd.func9, Tryd.ntmps9
    go_wp2_with fail
    refine (RT.out _).mono ?_
    rintro e w1 ⟨rfl, hb1⟩
    rw [W0.out]
    have HB1 := Lib.hid (below_on (below_al w (.cells #[.int .i64 c, .int .i64 r, .int .i64 b] 23)) hb1)
    clear hb1
    go_wp2
    go_ret2
    exact ⟨rfl, HB1.out⟩

#print axioms rbase13_any
#print axioms rring13_any
#print axioms rright13_any
#print axioms rwords13_any
end Go.Proofs.YtofiogbpejjolaaDoor
