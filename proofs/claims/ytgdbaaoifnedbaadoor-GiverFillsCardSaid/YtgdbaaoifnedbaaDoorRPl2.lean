/-
  Layer 13 (plot): the reference's At.
  Conditions: those that each theorem states.
-/
import Derived.Test.YtgdbaaoifnedbaaDoorRPl
namespace Go.Proofs.YtgdbaaoifnedbaaDoor
open Go.ChangeShapes Go.WideShapes Go.ChangeAt Go.RowKit

/-- Where the words of the field k begin; behind the last field, where the channel ends. -/
def begP (k : Nat) (R : Int) : Int := if k = 9 then 4 + 11 * R else fstP k R

theorem beg_step {k : Nat} {R : Int} (hk : 1 ≤ k ∧ k ≤ 8) : begP (k + 1) R = begP k R + lenP k R := by
  have : k = 1 ∨ k = 2 ∨ k = 3 ∨ k = 4 ∨ k = 5 ∨ k = 6 ∨ k = 7 ∨ k = 8 := by omega
  unfold begP fstP lenP slotsP
  rcases this with rfl | rfl | rfl | rfl | rfl | rfl | rfl | rfl <;> simp [tabRow] <;> omega

theorem beg_bd {k : Nat} {R : Int} (hk : 1 ≤ k ∧ k ≤ 8) (hR : 0 ≤ R ∧ R ≤ 64) : 0 ≤ begP k R ∧ begP k R ≤ 200 := by
  have : k = 1 ∨ k = 2 ∨ k = 3 ∨ k = 4 ∨ k = 5 ∨ k = 6 ∨ k = 7 ∨ k = 8 := by omega
  unfold begP fstP
  rcases this with rfl | rfl | rfl | rfl | rfl | rfl | rfl | rfl <;> simp [tabRow] <;> omega

theorem beg_off {k : Nat} {R s i : Int} (hk : 1 ≤ k ∧ k ≤ 8) (h : okWord R k s i) : offP R k s i = begP k R + s * (tabRow k).2.2.1 + i := by
  rw [offP_eq hk h]
  unfold begP
  rw [if_neg (by omega)]
  rfl

theorem beg_one (R : Int) : begP 1 R = 0 := by simp [begP, fstP, tabRow]

theorem row_low {k : Nat} (h : 1 ≤ k ∧ k ≤ 4) (R : Int) : lenP k R = 1 ∧ (tabRow k).2.2.1 = 1 ∧ ∀ s i, okWord R k s i ↔ (0 ≤ s ∧ s < 1 ∧ 0 ≤ i ∧ i < 1) := by
  have : k = 1 ∨ k = 2 ∨ k = 3 ∨ k = 4 := by omega
  unfold lenP slotsP okWord
  rcases this with rfl | rfl | rfl | rfl <;> simp [tabRow] <;> omega

theorem row_mid {k : Nat} (h : 5 ≤ k ∧ k ≤ 7) (R : Int) : lenP k R = R ∧ (tabRow k).2.2.1 = 1 ∧ ∀ s i, okWord R k s i ↔ (0 ≤ s ∧ s < R ∧ 0 ≤ i ∧ i < 1) := by
  have : k = 5 ∨ k = 6 ∨ k = 7 := by omega
  unfold lenP slotsP okWord
  rcases this with rfl | rfl | rfl <;> simp [tabRow] <;> omega

theorem row_top {k : Nat} (h : k = 8) (R : Int) : lenP k R = R * 8 ∧ (tabRow k).2.2.1 = 8 ∧ ∀ s i, okWord R k s i ↔ (0 ≤ s ∧ s < R ∧ 0 ≤ i ∧ i < 8) := by
  subst h
  unfold lenP slotsP okWord
  simp [tabRow]

set_option maxRecDepth 100000 in
set_option maxHeartbeats 4000000 in
theorem rat13_any (B R f s i : Int) (hB : 0 ≤ B ∧ B ≤ 100000) (hR : 0 ≤ R ∧ R ≤ 64) (w : World) :
    Calls Tryd.prog 34 #[.int .i64 B, .int .i64 R, .int .i64 f, .int .i64 s, .int .i64 i] w fun e w' => e = .returned (.tuple #[.int .i64 (atV13 B R f s i), .bool (decide (okWord R f s i))]) ∧ w = w' := by
  obtain ⟨hB1, hB2⟩ := hB
  obtain ⟨hR1, hR2⟩ := hR
  obtain ⟨V, eV⟩ : ∃ x, atV13 B R f s i = x := ⟨_, rfl⟩
  obtain ⟨O, eO⟩ : ∃ x, decide (okWord R f s i) = x := ⟨_, rfl⟩
  have HOK := Lib.hid (show okWord R f s i → V = B + offP R f s i ∧ O = true from fun h => ⟨by rw [← eV]; exact if_pos h, by rw [← eO]; exact decide_eq_true h⟩)
  have HNO := Lib.hid (show ¬ okWord R f s i → V = 0 ∧ O = false from fun h => ⟨by rw [← eV]; exact if_neg h, by rw [← eO]; exact decide_eq_false h⟩)
  have HRG := Lib.hid (show okWord R f s i → 1 ≤ f ∧ f ≤ 8 ∧ 0 ≤ s ∧ 0 ≤ i from fun h => by unfold okWord at h; omega)
  rw [eV, eO]
  clear eV eO
  go_enter Tryd.func34, Tryd.ntmps34
  go_wp2
  go_loopw [12, 13] (fun v c wr => ∃ k : Nat, 1 ≤ k ∧ k ≤ 9 ∧ c = .int .i64 k ∧ (∃ x : Int, v = .int .i64 x ∧ 0 ≤ x ∧ x ≤ 110000 ∧ Hid (x = B + begP k R)) ∧ wr = w ∧ Hid (okWord R f s i → (k : Int) ≤ f)) (fun _ c _ => 9 - (intOf c).toNat)
  case atStart => exact ⟨1, by omega, by omega, rfl, ⟨B, rfl, hB1, by omega, Lib.hid (by rw [beg_one]; omega)⟩, (by first | rfl | trivial), Lib.hid (fun h => (HRG.out h).1)⟩
  case round =>
    obtain ⟨k, hk1, hk9, rfl, ⟨x, rfl, hx1, hx2, HX⟩, rfl, HF⟩ := hrel
    by_cases hk8 : k ≤ 8
    · have t0 : decide ((k : Int) ≤ 8) = true := by simp; omega
      have hstep := beg_step (R := R) ⟨hk1, hk8⟩
      have hbb := beg_bd (R := R) ⟨hk1, hk8⟩ ⟨hR1, hR2⟩
      have hoff := fun s i => beg_off (R := R) (s := s) (i := i) ⟨hk1, hk8⟩
      have hx0 := HX.out
      have hx3 : x ≤ 100200 := by omega
      obtain ⟨wo, rfl⟩ : ∃ wo, wo = wr := ⟨_, rfl⟩
      have hcase : k ≤ 4 ∨ (5 ≤ k ∧ k ≤ 7) ∨ k = 8 := by omega
      rcases hcase with hq | hq | hq
      · have t5 : decide ((5 : Int) ≤ (k : Int)) = false := by simp; omega
        have t8 : ((k : Int) == 8) = false := by simp; omega
        obtain ⟨hlen, hwd, hok⟩ := row_low ⟨hk1, hq⟩ R
        rw [hlen] at hstep
        have HOF := Lib.hid (show ∀ j e, okWord R k j e → B + offP R k j e = x + j * 1 + e from fun j e h => by rw [hoff j e h, hwd, hx0]; omega)
        have HWD := Lib.hid hok
        have HSTEP := Lib.hid (show B + begP (k + 1) R = x + 1 * 1 from by rw [hstep, hx0]; omega)
        clear hstep hbb hoff hx0 hlen hwd hok
        go_wp2
        go_loopw [12, 16] (fun v c wi => ∃ j : Nat, (j : Int) ≤ 1 ∧ c = .int .i64 j ∧ v = .int .i64 (x + j * 1) ∧ wi = wo ∧ Hid (okWord R f s i → (k : Int) < f ∨ ((k : Int) = f ∧ (j : Int) ≤ s))) (fun _ c _ => 64 - (intOf c).toNat)
        case atStart => exact ⟨0, by omega, rfl, by simp, (by first | rfl | trivial), Lib.hid (fun h => by
          have h1 := HF.out h
          have h2 := HRG.out h
          omega)⟩
        case round =>
          obtain ⟨j, hj, rfl, rfl, rfl, HG⟩ := hrel
          obtain ⟨wm, rfl⟩ : ∃ wm, wm = wr := ⟨_, rfl⟩
          by_cases hjn : (j : Int) < 1
          · have t1 : decide ((j : Int) < 1) = true := by simpa using hjn
            have t1n : decide (j < 1) = true := by simp; omega
            have hj64 : j < 64 := by omega
            have hxj : x + (j : Int) * 1 ≤ 100800 := by omega
            have hxj0 : 0 ≤ x + (j : Int) * 1 := by omega
            obtain ⟨y, ey⟩ : ∃ y, x + (j : Int) * 1 = y := ⟨_, rfl⟩
            have HY := Lib.hid ey
            rw [ey] at hxj hxj0
            rw [ey]
            clear ey
            go_wp2
            go_loopw [12, 17] (fun v c wi => ∃ e : Nat, (e : Int) ≤ 1 ∧ c = .int .i64 e ∧ v = .int .i64 (y + e) ∧ wi = wm ∧ Hid (okWord R f s i → (k : Int) < f ∨ ((k : Int) = f ∧ ((j : Int) < s ∨ ((j : Int) = s ∧ (e : Int) ≤ i))))) (fun _ c _ => 8 - (intOf c).toNat)
            case atStart => exact ⟨0, by omega, rfl, by simp, (by first | rfl | trivial), Lib.hid (fun h => by
              have h1 := HG.out h
              have h2 := HRG.out h
              omega)⟩
            case round =>
              obtain ⟨e, he, rfl, rfl, rfl, HH⟩ := hrel
              by_cases hen : (e : Int) < 1
              · have t2 : decide ((e : Int) < 1) = true := by simpa using hen
                have t2n : decide (e < 1) = true := by simp; omega
                have he8 : e < 8 := by omega
                have hye : y + (e : Int) ≤ 100900 := by omega
                have hye0 : 0 ≤ y + (e : Int) := by omega
                by_cases hm : (k : Int) = f ∧ (j : Int) = s ∧ (e : Int) = i
                · have t3 : ((k : Int) == f) = true := beq_iff_eq.2 hm.1
                  have t4 : ((j : Int) == s) = true := beq_iff_eq.2 hm.2.1
                  have t6 : ((e : Int) == i) = true := beq_iff_eq.2 hm.2.2
                  have hP : okWord R k j e := (HWD.out _ _).2 ⟨by omega, by omega, by omega, by omega⟩
                  have hP2 : okWord R f s i := by rw [← hm.1, ← hm.2.1, ← hm.2.2]; exact hP
                  obtain ⟨hV, rfl⟩ := HOK.out hP2
                  have hV2 : V = y + (e : Int) := by rw [hV, ← hm.1, ← hm.2.1, ← hm.2.2, HOF.out _ _ hP, HY.out]
                  subst hV2
                  clear hm hP hP2 hV
                  go_wp2
                  go_ret2
                  exact ⟨rfl, (by first | rfl | trivial)⟩
                · have HH2 := Lib.hid (show okWord R f s i → (k : Int) < f ∨ ((k : Int) = f ∧ ((j : Int) < s ∨ ((j : Int) = s ∧ ((e + 1 : Nat) : Int) ≤ i))) from fun h => by
                    have h1 := HH.out h
                    omega)
                  by_cases h3 : (k : Int) = f
                  · have t3 : ((k : Int) == f) = true := beq_iff_eq.2 h3
                    by_cases h4 : (j : Int) = s
                    · have t4 : ((j : Int) == s) = true := beq_iff_eq.2 h4
                      have t6 : ((e : Int) == i) = false := beq_eq_false_iff_ne.2 fun h => hm ⟨h3, h4, h⟩
                      clear hm h3 h4
                      go_wp2
                      go_roundw
                      case rel => exact ⟨e + 1, by omega, by go_num, by go_num, (by first | rfl | trivial), HH2⟩
                      case measure => simp [intOf]; omega
                    · have t4 : ((j : Int) == s) = false := beq_eq_false_iff_ne.2 h4
                      clear hm h3 h4
                      go_wp2
                      go_roundw
                      case rel => exact ⟨e + 1, by omega, by go_num, by go_num, (by first | rfl | trivial), HH2⟩
                      case measure => simp [intOf]; omega
                  · have t3 : ((k : Int) == f) = false := beq_eq_false_iff_ne.2 h3
                    clear hm h3
                    go_wp2
                    go_roundw
                    case rel => exact ⟨e + 1, by omega, by go_num, by go_num, (by first | rfl | trivial), HH2⟩
                    case measure => simp [intOf]; omega
              · have t2 : decide ((e : Int) < 1) = false := by simpa using hen
                have t2n : decide (e < 1) = false := by simp; omega
                have hew : (e : Int) = 1 := by omega
                have HG2 := Lib.hid (show okWord R f s i → (k : Int) < f ∨ ((k : Int) = f ∧ ((j + 1 : Nat) : Int) ≤ s) from fun h => by
                  have h1 := HH.out h
                  by_cases hkf : (k : Int) = f
                  · have h3 : okWord R k s i := by rw [hkf]; exact h
                    have h4 := (HWD.out _ _).1 h3
                    omega
                  · omega)
                have HV := Lib.hid (show y + (e : Int) = x + ((j + 1 : Nat) : Int) * 1 from by rw [← HY.out]; omega)
                clear hen hew
                go_wp2
                go_roundw
                case rel => exact ⟨j + 1, by omega, by go_num, by rw [HV.out], (by first | rfl | trivial), HG2⟩
                case measure => simp [intOf]; omega
          · have t1 : decide ((j : Int) < 1) = false := by simpa using hjn
            have t1n : decide (j < 1) = false := by simp; omega
            have hjn2 : (j : Int) = 1 := by omega
            have HX2 := Lib.hid (show x + (j : Int) * 1 = B + begP (k + 1) R from by rw [HSTEP.out, hjn2])
            have HF2 := Lib.hid (show okWord R f s i → ((k + 1 : Nat) : Int) ≤ f from fun h => by
              have h1 := HG.out h
              by_cases hkf : (k : Int) = f
              · have h3 : okWord R k s i := by rw [hkf]; exact h
                have h4 := (HWD.out _ _).1 h3
                omega
              · omega)
            have hb1 : 0 ≤ x + (j : Int) * 1 := by omega
            have hb2 : x + (j : Int) * 1 ≤ 110000 := by omega
            clear hjn hjn2
            go_wp2
            go_roundw
            case rel => exact ⟨k + 1, by omega, by omega, by go_num, ⟨_, rfl, hb1, hb2, HX2⟩, (by first | rfl | trivial), HF2⟩
            case measure => simp [intOf]; omega
      · have t5 : decide ((5 : Int) ≤ (k : Int)) = true := by simp; omega
        have t8 : ((k : Int) == 8) = false := by simp; omega
        obtain ⟨hlen, hwd, hok⟩ := row_mid hq R
        rw [hlen] at hstep
        have HOF := Lib.hid (show ∀ j e, okWord R k j e → B + offP R k j e = x + j * 1 + e from fun j e h => by rw [hoff j e h, hwd, hx0]; omega)
        have HWD := Lib.hid hok
        have HSTEP := Lib.hid (show B + begP (k + 1) R = x + R * 1 from by rw [hstep, hx0]; omega)
        clear hstep hbb hoff hx0 hlen hwd hok
        go_wp2
        go_loopw [12, 16] (fun v c wi => ∃ j : Nat, (j : Int) ≤ R ∧ c = .int .i64 j ∧ v = .int .i64 (x + j * 1) ∧ wi = wo ∧ Hid (okWord R f s i → (k : Int) < f ∨ ((k : Int) = f ∧ (j : Int) ≤ s))) (fun _ c _ => 64 - (intOf c).toNat)
        case atStart => exact ⟨0, by omega, rfl, by simp, (by first | rfl | trivial), Lib.hid (fun h => by
          have h1 := HF.out h
          have h2 := HRG.out h
          omega)⟩
        case round =>
          obtain ⟨j, hj, rfl, rfl, rfl, HG⟩ := hrel
          obtain ⟨wm, rfl⟩ : ∃ wm, wm = wr := ⟨_, rfl⟩
          by_cases hjn : (j : Int) < R
          · have t1 : decide ((j : Int) < R) = true := by simpa using hjn
            have hj64 : j < 64 := by omega
            have hxj : x + (j : Int) * 1 ≤ 100800 := by omega
            have hxj0 : 0 ≤ x + (j : Int) * 1 := by omega
            obtain ⟨y, ey⟩ : ∃ y, x + (j : Int) * 1 = y := ⟨_, rfl⟩
            have HY := Lib.hid ey
            rw [ey] at hxj hxj0
            rw [ey]
            clear ey
            go_wp2
            go_loopw [12, 17] (fun v c wi => ∃ e : Nat, (e : Int) ≤ 1 ∧ c = .int .i64 e ∧ v = .int .i64 (y + e) ∧ wi = wm ∧ Hid (okWord R f s i → (k : Int) < f ∨ ((k : Int) = f ∧ ((j : Int) < s ∨ ((j : Int) = s ∧ (e : Int) ≤ i))))) (fun _ c _ => 8 - (intOf c).toNat)
            case atStart => exact ⟨0, by omega, rfl, by simp, (by first | rfl | trivial), Lib.hid (fun h => by
              have h1 := HG.out h
              have h2 := HRG.out h
              omega)⟩
            case round =>
              obtain ⟨e, he, rfl, rfl, rfl, HH⟩ := hrel
              by_cases hen : (e : Int) < 1
              · have t2 : decide ((e : Int) < 1) = true := by simpa using hen
                have t2n : decide (e < 1) = true := by simp; omega
                have he8 : e < 8 := by omega
                have hye : y + (e : Int) ≤ 100900 := by omega
                have hye0 : 0 ≤ y + (e : Int) := by omega
                by_cases hm : (k : Int) = f ∧ (j : Int) = s ∧ (e : Int) = i
                · have t3 : ((k : Int) == f) = true := beq_iff_eq.2 hm.1
                  have t4 : ((j : Int) == s) = true := beq_iff_eq.2 hm.2.1
                  have t6 : ((e : Int) == i) = true := beq_iff_eq.2 hm.2.2
                  have hP : okWord R k j e := (HWD.out _ _).2 ⟨by omega, by omega, by omega, by omega⟩
                  have hP2 : okWord R f s i := by rw [← hm.1, ← hm.2.1, ← hm.2.2]; exact hP
                  obtain ⟨hV, rfl⟩ := HOK.out hP2
                  have hV2 : V = y + (e : Int) := by rw [hV, ← hm.1, ← hm.2.1, ← hm.2.2, HOF.out _ _ hP, HY.out]
                  subst hV2
                  clear hm hP hP2 hV
                  go_wp2
                  go_ret2
                  exact ⟨rfl, (by first | rfl | trivial)⟩
                · have HH2 := Lib.hid (show okWord R f s i → (k : Int) < f ∨ ((k : Int) = f ∧ ((j : Int) < s ∨ ((j : Int) = s ∧ ((e + 1 : Nat) : Int) ≤ i))) from fun h => by
                    have h1 := HH.out h
                    omega)
                  by_cases h3 : (k : Int) = f
                  · have t3 : ((k : Int) == f) = true := beq_iff_eq.2 h3
                    by_cases h4 : (j : Int) = s
                    · have t4 : ((j : Int) == s) = true := beq_iff_eq.2 h4
                      have t6 : ((e : Int) == i) = false := beq_eq_false_iff_ne.2 fun h => hm ⟨h3, h4, h⟩
                      clear hm h3 h4
                      go_wp2
                      go_roundw
                      case rel => exact ⟨e + 1, by omega, by go_num, by go_num, (by first | rfl | trivial), HH2⟩
                      case measure => simp [intOf]; omega
                    · have t4 : ((j : Int) == s) = false := beq_eq_false_iff_ne.2 h4
                      clear hm h3 h4
                      go_wp2
                      go_roundw
                      case rel => exact ⟨e + 1, by omega, by go_num, by go_num, (by first | rfl | trivial), HH2⟩
                      case measure => simp [intOf]; omega
                  · have t3 : ((k : Int) == f) = false := beq_eq_false_iff_ne.2 h3
                    clear hm h3
                    go_wp2
                    go_roundw
                    case rel => exact ⟨e + 1, by omega, by go_num, by go_num, (by first | rfl | trivial), HH2⟩
                    case measure => simp [intOf]; omega
              · have t2 : decide ((e : Int) < 1) = false := by simpa using hen
                have t2n : decide (e < 1) = false := by simp; omega
                have hew : (e : Int) = 1 := by omega
                have HG2 := Lib.hid (show okWord R f s i → (k : Int) < f ∨ ((k : Int) = f ∧ ((j + 1 : Nat) : Int) ≤ s) from fun h => by
                  have h1 := HH.out h
                  by_cases hkf : (k : Int) = f
                  · have h3 : okWord R k s i := by rw [hkf]; exact h
                    have h4 := (HWD.out _ _).1 h3
                    omega
                  · omega)
                have HV := Lib.hid (show y + (e : Int) = x + ((j + 1 : Nat) : Int) * 1 from by rw [← HY.out]; omega)
                clear hen hew
                go_wp2
                go_roundw
                case rel => exact ⟨j + 1, by omega, by go_num, by rw [HV.out], (by first | rfl | trivial), HG2⟩
                case measure => simp [intOf]; omega
          · have t1 : decide ((j : Int) < R) = false := by simpa using hjn
            have hjn2 : (j : Int) = R := by omega
            have HX2 := Lib.hid (show x + (j : Int) * 1 = B + begP (k + 1) R from by rw [HSTEP.out, hjn2])
            have HF2 := Lib.hid (show okWord R f s i → ((k + 1 : Nat) : Int) ≤ f from fun h => by
              have h1 := HG.out h
              by_cases hkf : (k : Int) = f
              · have h3 : okWord R k s i := by rw [hkf]; exact h
                have h4 := (HWD.out _ _).1 h3
                omega
              · omega)
            have hb1 : 0 ≤ x + (j : Int) * 1 := by omega
            have hb2 : x + (j : Int) * 1 ≤ 110000 := by omega
            clear hjn hjn2
            go_wp2
            go_roundw
            case rel => exact ⟨k + 1, by omega, by omega, by go_num, ⟨_, rfl, hb1, hb2, HX2⟩, (by first | rfl | trivial), HF2⟩
            case measure => simp [intOf]; omega
      · have t5 : decide ((5 : Int) ≤ (k : Int)) = true := by simp; omega
        have t8 : ((k : Int) == 8) = true := by simp; omega
        obtain ⟨hlen, hwd, hok⟩ := row_top hq R
        rw [hlen] at hstep
        have HOF := Lib.hid (show ∀ j e, okWord R k j e → B + offP R k j e = x + j * 8 + e from fun j e h => by rw [hoff j e h, hwd, hx0]; omega)
        have HWD := Lib.hid hok
        have HSTEP := Lib.hid (show B + begP (k + 1) R = x + R * 8 from by rw [hstep, hx0]; omega)
        clear hstep hbb hoff hx0 hlen hwd hok hq
        go_wp2
        go_loopw [12, 16] (fun v c wi => ∃ j : Nat, (j : Int) ≤ R ∧ c = .int .i64 j ∧ v = .int .i64 (x + j * 8) ∧ wi = wo ∧ Hid (okWord R f s i → (k : Int) < f ∨ ((k : Int) = f ∧ (j : Int) ≤ s))) (fun _ c _ => 64 - (intOf c).toNat)
        case atStart => exact ⟨0, by omega, rfl, by simp, (by first | rfl | trivial), Lib.hid (fun h => by
          have h1 := HF.out h
          have h2 := HRG.out h
          omega)⟩
        case round =>
          obtain ⟨j, hj, rfl, rfl, rfl, HG⟩ := hrel
          obtain ⟨wm, rfl⟩ : ∃ wm, wm = wr := ⟨_, rfl⟩
          by_cases hjn : (j : Int) < R
          · have t1 : decide ((j : Int) < R) = true := by simpa using hjn
            have hj64 : j < 64 := by omega
            have hxj : x + (j : Int) * 8 ≤ 100800 := by omega
            have hxj0 : 0 ≤ x + (j : Int) * 8 := by omega
            obtain ⟨y, ey⟩ : ∃ y, x + (j : Int) * 8 = y := ⟨_, rfl⟩
            have HY := Lib.hid ey
            rw [ey] at hxj hxj0
            rw [ey]
            clear ey
            go_wp2
            go_loopw [12, 17] (fun v c wi => ∃ e : Nat, (e : Int) ≤ 8 ∧ c = .int .i64 e ∧ v = .int .i64 (y + e) ∧ wi = wm ∧ Hid (okWord R f s i → (k : Int) < f ∨ ((k : Int) = f ∧ ((j : Int) < s ∨ ((j : Int) = s ∧ (e : Int) ≤ i))))) (fun _ c _ => 8 - (intOf c).toNat)
            case atStart => exact ⟨0, by omega, rfl, by simp, (by first | rfl | trivial), Lib.hid (fun h => by
              have h1 := HG.out h
              have h2 := HRG.out h
              omega)⟩
            case round =>
              obtain ⟨e, he, rfl, rfl, rfl, HH⟩ := hrel
              by_cases hen : (e : Int) < 8
              · have t2 : decide ((e : Int) < 8) = true := by simpa using hen
                have t2n : decide (e < 8) = true := by simp; omega
                have he8 : e < 8 := by omega
                have hye : y + (e : Int) ≤ 100900 := by omega
                have hye0 : 0 ≤ y + (e : Int) := by omega
                by_cases hm : (k : Int) = f ∧ (j : Int) = s ∧ (e : Int) = i
                · have t3 : ((k : Int) == f) = true := beq_iff_eq.2 hm.1
                  have t4 : ((j : Int) == s) = true := beq_iff_eq.2 hm.2.1
                  have t6 : ((e : Int) == i) = true := beq_iff_eq.2 hm.2.2
                  have hP : okWord R k j e := (HWD.out _ _).2 ⟨by omega, by omega, by omega, by omega⟩
                  have hP2 : okWord R f s i := by rw [← hm.1, ← hm.2.1, ← hm.2.2]; exact hP
                  obtain ⟨hV, rfl⟩ := HOK.out hP2
                  have hV2 : V = y + (e : Int) := by rw [hV, ← hm.1, ← hm.2.1, ← hm.2.2, HOF.out _ _ hP, HY.out]
                  subst hV2
                  clear hm hP hP2 hV
                  go_wp2
                  go_ret2
                  exact ⟨rfl, (by first | rfl | trivial)⟩
                · have HH2 := Lib.hid (show okWord R f s i → (k : Int) < f ∨ ((k : Int) = f ∧ ((j : Int) < s ∨ ((j : Int) = s ∧ ((e + 1 : Nat) : Int) ≤ i))) from fun h => by
                    have h1 := HH.out h
                    omega)
                  by_cases h3 : (k : Int) = f
                  · have t3 : ((k : Int) == f) = true := beq_iff_eq.2 h3
                    by_cases h4 : (j : Int) = s
                    · have t4 : ((j : Int) == s) = true := beq_iff_eq.2 h4
                      have t6 : ((e : Int) == i) = false := beq_eq_false_iff_ne.2 fun h => hm ⟨h3, h4, h⟩
                      clear hm h3 h4
                      go_wp2
                      go_roundw
                      case rel => exact ⟨e + 1, by omega, by go_num, by go_num, (by first | rfl | trivial), HH2⟩
                      case measure => simp [intOf]; omega
                    · have t4 : ((j : Int) == s) = false := beq_eq_false_iff_ne.2 h4
                      clear hm h3 h4
                      go_wp2
                      go_roundw
                      case rel => exact ⟨e + 1, by omega, by go_num, by go_num, (by first | rfl | trivial), HH2⟩
                      case measure => simp [intOf]; omega
                  · have t3 : ((k : Int) == f) = false := beq_eq_false_iff_ne.2 h3
                    clear hm h3
                    go_wp2
                    go_roundw
                    case rel => exact ⟨e + 1, by omega, by go_num, by go_num, (by first | rfl | trivial), HH2⟩
                    case measure => simp [intOf]; omega
              · have t2 : decide ((e : Int) < 8) = false := by simpa using hen
                have t2n : decide (e < 8) = false := by simp; omega
                have hew : (e : Int) = 8 := by omega
                have HG2 := Lib.hid (show okWord R f s i → (k : Int) < f ∨ ((k : Int) = f ∧ ((j + 1 : Nat) : Int) ≤ s) from fun h => by
                  have h1 := HH.out h
                  by_cases hkf : (k : Int) = f
                  · have h3 : okWord R k s i := by rw [hkf]; exact h
                    have h4 := (HWD.out _ _).1 h3
                    omega
                  · omega)
                have HV := Lib.hid (show y + (e : Int) = x + ((j + 1 : Nat) : Int) * 8 from by rw [← HY.out]; omega)
                clear hen hew
                go_wp2
                go_roundw
                case rel => exact ⟨j + 1, by omega, by go_num, by rw [HV.out], (by first | rfl | trivial), HG2⟩
                case measure => simp [intOf]; omega
          · have t1 : decide ((j : Int) < R) = false := by simpa using hjn
            have hjn2 : (j : Int) = R := by omega
            have HX2 := Lib.hid (show x + (j : Int) * 8 = B + begP (k + 1) R from by rw [HSTEP.out, hjn2])
            have HF2 := Lib.hid (show okWord R f s i → ((k + 1 : Nat) : Int) ≤ f from fun h => by
              have h1 := HG.out h
              by_cases hkf : (k : Int) = f
              · have h3 : okWord R k s i := by rw [hkf]; exact h
                have h4 := (HWD.out _ _).1 h3
                omega
              · omega)
            have hb1 : 0 ≤ x + (j : Int) * 8 := by omega
            have hb2 : x + (j : Int) * 8 ≤ 110000 := by omega
            clear hjn hjn2
            go_wp2
            go_roundw
            case rel => exact ⟨k + 1, by omega, by omega, by go_num, ⟨_, rfl, hb1, hb2, HX2⟩, (by first | rfl | trivial), HF2⟩
            case measure => simp [intOf]; omega
    · have t0 : decide ((k : Int) ≤ 8) = false := by simp; omega
      obtain ⟨rfl, rfl⟩ := HNO.out (fun h => by have := HF.out h; have := HRG.out h; omega)
      go_wp2
      go_ret2
      exact ⟨rfl, (by first | rfl | trivial)⟩

#print axioms rat13_any
end Go.Proofs.YtgdbaaoifnedbaaDoor
