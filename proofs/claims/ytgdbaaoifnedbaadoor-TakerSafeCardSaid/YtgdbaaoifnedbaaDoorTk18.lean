/-
  Layer 17 (taker): the law's may: every access is one that a taker may make.
  Conditions: those that each theorem states.
-/
import Derived.Test.YtgdbaaoifnedbaaDoorTk17
import Derived.Test.YtgdbaaoifnedbaaDoorRPl2
namespace Go.Proofs.YtgdbaaoifnedbaaDoor
open Go.ChangeShapes Go.WideShapes Go.ChangeAt Go.RowKit

/-- The touch is one of those that a taker may make. -/
def MayT17 (B : Int) (R : Nat) (peer : Int) (x : Tch) : Prop :=
  x.1 = 3 ∨ (x.1 = 4 ∧ x.2.1 = peer) ∨ ∃ f s i : Nat, 1 ≤ f ∧ f ≤ 8 ∧ okWord (R : Int) f s i ∧ x.2.1 = B + offP (R : Int) f s i ∧ ((f = 2 ∨ f = 4 ∨ f = 6) ∧ x.1 = 2 ∨ ¬ (f = 2 ∨ f = 4 ∨ f = 6) ∧ x.1 = 1)

set_option maxRecDepth 100000 in
set_option maxHeartbeats 4000000 in
theorem may17_word (B self peer own : Int) (R f s i : Nat) (κ u : Int) (w : World) (hR : okRing (R : Int)) (hB : 0 ≤ B ∧ B ≤ 65535) (hf : 1 ≤ f ∧ f ≤ 8) (hw : okWord (R : Int) f s i) (hk : (f = 2 ∨ f = 4 ∨ f = 6) ∧ κ = 2 ∨ ¬ (f = 2 ∨ f = 4 ∨ f = 6) ∧ κ = 1) :
    Calls Tryd.prog 47 #[baseV17 B (R : Int) self peer own, .agg #[.int .i64 κ, .int .i64 (B + offP (R : Int) f s i), .int .i64 u]] w fun e w' => e = .returned (.bool true) ∧ Below w.heap.size w w' := by
  have hR64 := hR.bd
  have hs : s < R ∧ i < 8 := by unfold okWord at hw; omega
  have HAT := Lib.hid (fun (F S I : Nat) W => rat13_any B (R : Int) F S I (by omega) (by omega) W)
  have HIN := Lib.hid (fun (F S I : Nat) (h : okWord (R : Int) F S I) (e : B + offP (R : Int) F S I = B + offP (R : Int) f s i) => off_inj hR h hw (by omega))
  have HW := Lib.hid hw
  obtain ⟨X, hX⟩ : ∃ X, B + offP (R : Int) f s i = X := ⟨_, rfl⟩
  have HX := Lib.hid hX
  rw [hX] at HIN ⊢
  obtain ⟨w2, hw2⟩ : ∃ w2, w2 = ((w.alloc (.cells #[.int .i64 B, .int .i64 (R : Int), .int .i64 self, .int .i64 peer, .int .i64 own] 25)).alloc (.cells #[.int .i64 κ, .int .i64 X, .int .i64 u] 64)) := ⟨_, rfl⟩
  have BB : Hid (Below w.heap.size w w2) := Lib.hid (by rw [hw2]; exact below_on (below_al _ _) (below_al _ _))
  have r0 : Row w2 w.heap.size 25 [.int .i64 B, .int .i64 (R : Int), .int .i64 self, .int .i64 peer, .int .i64 own] := by rw [hw2]; exact (Row.new w _ #[.int .i64 B, .int .i64 (R : Int), .int .i64 self, .int .i64 peer, .int .i64 own]).below (below_al _ _)
  have r1 : Row w2 (w.heap.size + 1) 64 [.int .i64 κ, .int .i64 X, .int .i64 u] := by
    have := Row.new (w.alloc (.cells #[.int .i64 B, .int .i64 (R : Int), .int .i64 self, .int .i64 peer, .int .i64 own] 25)) 64 #[.int .i64 κ, .int .i64 X, .int .i64 u]
    rw [size_al] at this
    rw [hw2]
    exact this
  have c0 := r0.cell 0
  have c1 := r0.cell 1
  have d0 := r1.cell 0
  have d1 := r1.cell 1
  simp only [List.getElem?_cons_zero, List.getElem?_cons_succ] at c0 c1 d0 d1
  have k3 : (κ == 3) = false := by simp; omega
  have k4 : (κ == 4) = false := by simp; omega
  have k5 : decide (κ ≤ 2) = true := by simp; omega
  unfold baseV17
  clear hR hw hX r0 r1
  go_enter Tryd.func47, Tryd.ntmps47
  go_wp2
  rw [← hw2]
  clear hw2
  go_loopw [5] (fun fv wr => ∃ F : Nat, 1 ≤ F ∧ F ≤ f ∧ fv = .int .i64 F ∧ w2 = wr) (fun fv _ => 9 - (intOf fv).toNat)
  case atStart => exact ⟨1, Nat.le_refl _, hf.1, rfl, rfl⟩
  case round =>
    obtain ⟨F, hF1, hFf, rfl, rfl⟩ := hrel
    have e8 : (F : Int) ≤ 8 := by omega
    by_cases h2 : F = 2
    · have f2 : ((F : Int) == 2) = true := by simp; omega
      have HF : Hid (F = 2 ∨ F = 4 ∨ F = 6) := Lib.hid (.inl h2)
      clear h2
      go_wp2
      go_loopw [7] (fun sv wq => ∃ S : Nat, S ≤ R ∧ Hid (F = f → S ≤ s) ∧ sv = .int .i64 S ∧ w2 = wq) (fun sv _ => R - (intOf sv).toNat)
      case atStart => exact ⟨0, Nat.zero_le _, Lib.hid (fun _ => Nat.zero_le _), rfl, rfl⟩
      case round =>
        obtain ⟨S, hS, hSs, rfl, rfl⟩ := hrel
        by_cases hSR : S < R
        · have e1 : (S : Int) < (R : Int) := by omega
          go_wp2
          go_loopw [8] (fun kv wz => ∃ I : Nat, I ≤ 8 ∧ Hid (F = f → S = s → I ≤ i) ∧ kv = .int .i64 I ∧ w2 = wz) (fun kv _ => 8 - (intOf kv).toNat)
          case atStart => exact ⟨0, Nat.zero_le _, Lib.hid (fun _ _ => Nat.zero_le _), rfl, rfl⟩
          case round =>
            obtain ⟨I, hI, hIi, rfl, rfl⟩ := hrel
            by_cases hI8 : I < 8
            · have e2 : (I : Int) < 8 := by omega
              have KA := Lib.hid (HAT.out F S I w2)
              by_cases hm : F = f ∧ S = s ∧ I = i
              · obtain ⟨rfl, rfl, rfl⟩ := hm
                have e3 : decide (okWord (R : Int) F S I) = true := decide_eq_true HW.out
                have e4 : atV13 B (R : Int) F S I = X := by rw [← HX.out]; exact if_pos HW.out
                rw [e3, e4] at KA
                have k1 : (κ == 2) = true := by have := HF.out; simp; omega
                clear e3 e4
                go_wp2_with fail
                refine KA.out.mono ?_
                rintro e w' ⟨rfl, rfl⟩
                go_wp2
                go_ret
                exact ⟨by simp, BB.out⟩
              · have hne : Hid (F = f → S = s → I + 1 ≤ i) := Lib.hid (fun a b => by have := hIi.out a b; omega)
                by_cases hok : okWord (R : Int) F S I
                · have e3 : decide (okWord (R : Int) F S I) = true := decide_eq_true hok
                  have e4 : (atV13 B (R : Int) F S I == X) = false := by
                    rw [show atV13 B (R : Int) F S I = B + offP (R : Int) F S I from if_pos hok]
                    simp only [beq_eq_false_iff_ne, ne_eq]
                    intro e
                    have := HIN.out F S I hok e
                    omega
                  rw [e3] at KA
                  clear hm hok e3
                  go_wp2_with fail
                  refine KA.out.mono ?_
                  rintro e w' ⟨rfl, rfl⟩
                  go_wp2
                  go_roundw
                  case rel => exact ⟨I + 1, by omega, hne, by go_num, trivial⟩
                  case measure => simp [intOf]; omega
                · have e3 : decide (okWord (R : Int) F S I) = false := decide_eq_false hok
                  rw [e3] at KA
                  clear hm hok e3
                  go_wp2_with fail
                  refine KA.out.mono ?_
                  rintro e w' ⟨rfl, rfl⟩
                  go_wp2
                  go_roundw
                  case rel => exact ⟨I + 1, by omega, hne, by go_num, trivial⟩
                  case measure => simp [intOf]; omega
            · obtain rfl : I = 8 := by omega
              go_wp2
              go_roundw
              case rel => exact ⟨S + 1, by omega, Lib.hid (fun a => by have := hSs.out a; have := hIi.out a; omega), by go_num, trivial⟩
              case measure => simp [intOf]; omega
        · obtain rfl : R = S := by omega
          go_wp2
          go_roundw
          case rel => exact ⟨F + 1, by omega, by have := hSs.out; omega, by go_num, trivial⟩
          case measure => simp [intOf]; omega
    · have f2 : ((F : Int) == 2) = false := by simp; omega
      by_cases h4 : F = 4
      · have f4 : ((F : Int) == 4) = true := by simp; omega
        have HF : Hid (F = 2 ∨ F = 4 ∨ F = 6) := Lib.hid (.inr (.inl h4))
        clear h2 h4
        go_wp2
        go_loopw [7] (fun sv wq => ∃ S : Nat, S ≤ R ∧ Hid (F = f → S ≤ s) ∧ sv = .int .i64 S ∧ w2 = wq) (fun sv _ => R - (intOf sv).toNat)
        case atStart => exact ⟨0, Nat.zero_le _, Lib.hid (fun _ => Nat.zero_le _), rfl, rfl⟩
        case round =>
          obtain ⟨S, hS, hSs, rfl, rfl⟩ := hrel
          by_cases hSR : S < R
          · have e1 : (S : Int) < (R : Int) := by omega
            go_wp2
            go_loopw [8] (fun kv wz => ∃ I : Nat, I ≤ 8 ∧ Hid (F = f → S = s → I ≤ i) ∧ kv = .int .i64 I ∧ w2 = wz) (fun kv _ => 8 - (intOf kv).toNat)
            case atStart => exact ⟨0, Nat.zero_le _, Lib.hid (fun _ _ => Nat.zero_le _), rfl, rfl⟩
            case round =>
              obtain ⟨I, hI, hIi, rfl, rfl⟩ := hrel
              by_cases hI8 : I < 8
              · have e2 : (I : Int) < 8 := by omega
                have KA := Lib.hid (HAT.out F S I w2)
                by_cases hm : F = f ∧ S = s ∧ I = i
                · obtain ⟨rfl, rfl, rfl⟩ := hm
                  have e3 : decide (okWord (R : Int) F S I) = true := decide_eq_true HW.out
                  have e4 : atV13 B (R : Int) F S I = X := by rw [← HX.out]; exact if_pos HW.out
                  rw [e3, e4] at KA
                  have k1 : (κ == 2) = true := by have := HF.out; simp; omega
                  clear e3 e4
                  go_wp2_with fail
                  refine KA.out.mono ?_
                  rintro e w' ⟨rfl, rfl⟩
                  go_wp2
                  go_ret
                  exact ⟨by simp, BB.out⟩
                · have hne : Hid (F = f → S = s → I + 1 ≤ i) := Lib.hid (fun a b => by have := hIi.out a b; omega)
                  by_cases hok : okWord (R : Int) F S I
                  · have e3 : decide (okWord (R : Int) F S I) = true := decide_eq_true hok
                    have e4 : (atV13 B (R : Int) F S I == X) = false := by
                      rw [show atV13 B (R : Int) F S I = B + offP (R : Int) F S I from if_pos hok]
                      simp only [beq_eq_false_iff_ne, ne_eq]
                      intro e
                      have := HIN.out F S I hok e
                      omega
                    rw [e3] at KA
                    clear hm hok e3
                    go_wp2_with fail
                    refine KA.out.mono ?_
                    rintro e w' ⟨rfl, rfl⟩
                    go_wp2
                    go_roundw
                    case rel => exact ⟨I + 1, by omega, hne, by go_num, trivial⟩
                    case measure => simp [intOf]; omega
                  · have e3 : decide (okWord (R : Int) F S I) = false := decide_eq_false hok
                    rw [e3] at KA
                    clear hm hok e3
                    go_wp2_with fail
                    refine KA.out.mono ?_
                    rintro e w' ⟨rfl, rfl⟩
                    go_wp2
                    go_roundw
                    case rel => exact ⟨I + 1, by omega, hne, by go_num, trivial⟩
                    case measure => simp [intOf]; omega
              · obtain rfl : I = 8 := by omega
                go_wp2
                go_roundw
                case rel => exact ⟨S + 1, by omega, Lib.hid (fun a => by have := hSs.out a; have := hIi.out a; omega), by go_num, trivial⟩
                case measure => simp [intOf]; omega
          · obtain rfl : R = S := by omega
            go_wp2
            go_roundw
            case rel => exact ⟨F + 1, by omega, by have := hSs.out; omega, by go_num, trivial⟩
            case measure => simp [intOf]; omega
      · have f4 : ((F : Int) == 4) = false := by simp; omega
        by_cases h6 : F = 6
        · have f6 : ((F : Int) == 6) = true := by simp; omega
          have HF : Hid (F = 2 ∨ F = 4 ∨ F = 6) := Lib.hid (.inr (.inr h6))
          clear h2 h4 h6
          go_wp2
          go_loopw [7] (fun sv wq => ∃ S : Nat, S ≤ R ∧ Hid (F = f → S ≤ s) ∧ sv = .int .i64 S ∧ w2 = wq) (fun sv _ => R - (intOf sv).toNat)
          case atStart => exact ⟨0, Nat.zero_le _, Lib.hid (fun _ => Nat.zero_le _), rfl, rfl⟩
          case round =>
            obtain ⟨S, hS, hSs, rfl, rfl⟩ := hrel
            by_cases hSR : S < R
            · have e1 : (S : Int) < (R : Int) := by omega
              go_wp2
              go_loopw [8] (fun kv wz => ∃ I : Nat, I ≤ 8 ∧ Hid (F = f → S = s → I ≤ i) ∧ kv = .int .i64 I ∧ w2 = wz) (fun kv _ => 8 - (intOf kv).toNat)
              case atStart => exact ⟨0, Nat.zero_le _, Lib.hid (fun _ _ => Nat.zero_le _), rfl, rfl⟩
              case round =>
                obtain ⟨I, hI, hIi, rfl, rfl⟩ := hrel
                by_cases hI8 : I < 8
                · have e2 : (I : Int) < 8 := by omega
                  have KA := Lib.hid (HAT.out F S I w2)
                  by_cases hm : F = f ∧ S = s ∧ I = i
                  · obtain ⟨rfl, rfl, rfl⟩ := hm
                    have e3 : decide (okWord (R : Int) F S I) = true := decide_eq_true HW.out
                    have e4 : atV13 B (R : Int) F S I = X := by rw [← HX.out]; exact if_pos HW.out
                    rw [e3, e4] at KA
                    have k1 : (κ == 2) = true := by have := HF.out; simp; omega
                    clear e3 e4
                    go_wp2_with fail
                    refine KA.out.mono ?_
                    rintro e w' ⟨rfl, rfl⟩
                    go_wp2
                    go_ret
                    exact ⟨by simp, BB.out⟩
                  · have hne : Hid (F = f → S = s → I + 1 ≤ i) := Lib.hid (fun a b => by have := hIi.out a b; omega)
                    by_cases hok : okWord (R : Int) F S I
                    · have e3 : decide (okWord (R : Int) F S I) = true := decide_eq_true hok
                      have e4 : (atV13 B (R : Int) F S I == X) = false := by
                        rw [show atV13 B (R : Int) F S I = B + offP (R : Int) F S I from if_pos hok]
                        simp only [beq_eq_false_iff_ne, ne_eq]
                        intro e
                        have := HIN.out F S I hok e
                        omega
                      rw [e3] at KA
                      clear hm hok e3
                      go_wp2_with fail
                      refine KA.out.mono ?_
                      rintro e w' ⟨rfl, rfl⟩
                      go_wp2
                      go_roundw
                      case rel => exact ⟨I + 1, by omega, hne, by go_num, trivial⟩
                      case measure => simp [intOf]; omega
                    · have e3 : decide (okWord (R : Int) F S I) = false := decide_eq_false hok
                      rw [e3] at KA
                      clear hm hok e3
                      go_wp2_with fail
                      refine KA.out.mono ?_
                      rintro e w' ⟨rfl, rfl⟩
                      go_wp2
                      go_roundw
                      case rel => exact ⟨I + 1, by omega, hne, by go_num, trivial⟩
                      case measure => simp [intOf]; omega
                · obtain rfl : I = 8 := by omega
                  go_wp2
                  go_roundw
                  case rel => exact ⟨S + 1, by omega, Lib.hid (fun a => by have := hSs.out a; have := hIi.out a; omega), by go_num, trivial⟩
                  case measure => simp [intOf]; omega
            · obtain rfl : R = S := by omega
              go_wp2
              go_roundw
              case rel => exact ⟨F + 1, by omega, by have := hSs.out; omega, by go_num, trivial⟩
              case measure => simp [intOf]; omega
        · have f6 : ((F : Int) == 6) = false := by simp; omega
          have HF : Hid (¬ (F = 2 ∨ F = 4 ∨ F = 6)) := Lib.hid (by omega)
          clear h2 h4 h6
          go_wp2
          go_loopw [7] (fun sv wq => ∃ S : Nat, S ≤ R ∧ Hid (F = f → S ≤ s) ∧ sv = .int .i64 S ∧ w2 = wq) (fun sv _ => R - (intOf sv).toNat)
          case atStart => exact ⟨0, Nat.zero_le _, Lib.hid (fun _ => Nat.zero_le _), rfl, rfl⟩
          case round =>
            obtain ⟨S, hS, hSs, rfl, rfl⟩ := hrel
            by_cases hSR : S < R
            · have e1 : (S : Int) < (R : Int) := by omega
              go_wp2
              go_loopw [8] (fun kv wz => ∃ I : Nat, I ≤ 8 ∧ Hid (F = f → S = s → I ≤ i) ∧ kv = .int .i64 I ∧ w2 = wz) (fun kv _ => 8 - (intOf kv).toNat)
              case atStart => exact ⟨0, Nat.zero_le _, Lib.hid (fun _ _ => Nat.zero_le _), rfl, rfl⟩
              case round =>
                obtain ⟨I, hI, hIi, rfl, rfl⟩ := hrel
                by_cases hI8 : I < 8
                · have e2 : (I : Int) < 8 := by omega
                  have KA := Lib.hid (HAT.out F S I w2)
                  by_cases hm : F = f ∧ S = s ∧ I = i
                  · obtain ⟨rfl, rfl, rfl⟩ := hm
                    have e3 : decide (okWord (R : Int) F S I) = true := decide_eq_true HW.out
                    have e4 : atV13 B (R : Int) F S I = X := by rw [← HX.out]; exact if_pos HW.out
                    rw [e3, e4] at KA
                    have k1 : (κ == 2) = false := by have := HF.out; simp; omega
                    clear e3 e4
                    go_wp2_with fail
                    refine KA.out.mono ?_
                    rintro e w' ⟨rfl, rfl⟩
                    go_wp2
                    go_ret
                    exact ⟨by simp, BB.out⟩
                  · have hne : Hid (F = f → S = s → I + 1 ≤ i) := Lib.hid (fun a b => by have := hIi.out a b; omega)
                    by_cases hok : okWord (R : Int) F S I
                    · have e3 : decide (okWord (R : Int) F S I) = true := decide_eq_true hok
                      have e4 : (atV13 B (R : Int) F S I == X) = false := by
                        rw [show atV13 B (R : Int) F S I = B + offP (R : Int) F S I from if_pos hok]
                        simp only [beq_eq_false_iff_ne, ne_eq]
                        intro e
                        have := HIN.out F S I hok e
                        omega
                      rw [e3] at KA
                      clear hm hok e3
                      go_wp2_with fail
                      refine KA.out.mono ?_
                      rintro e w' ⟨rfl, rfl⟩
                      go_wp2
                      go_roundw
                      case rel => exact ⟨I + 1, by omega, hne, by go_num, trivial⟩
                      case measure => simp [intOf]; omega
                    · have e3 : decide (okWord (R : Int) F S I) = false := decide_eq_false hok
                      rw [e3] at KA
                      clear hm hok e3
                      go_wp2_with fail
                      refine KA.out.mono ?_
                      rintro e w' ⟨rfl, rfl⟩
                      go_wp2
                      go_roundw
                      case rel => exact ⟨I + 1, by omega, hne, by go_num, trivial⟩
                      case measure => simp [intOf]; omega
                · obtain rfl : I = 8 := by omega
                  go_wp2
                  go_roundw
                  case rel => exact ⟨S + 1, by omega, Lib.hid (fun a => by have := hSs.out a; have := hIi.out a; omega), by go_num, trivial⟩
                  case measure => simp [intOf]; omega
            · obtain rfl : R = S := by omega
              go_wp2
              go_roundw
              case rel => exact ⟨F + 1, by omega, by have := hSs.out; omega, by go_num, trivial⟩
              case measure => simp [intOf]; omega

set_option maxRecDepth 100000 in
set_option maxHeartbeats 1000000 in
theorem may17_any (B self peer own : Int) (R : Nat) (x : Tch) (w : World) (hR : okRing (R : Int)) (hB : 0 ≤ B ∧ B ≤ 65535) (h : MayT17 B R peer x) :
    Calls Tryd.prog 47 #[baseV17 B (R : Int) self peer own, .agg #[.int .i64 x.1, .int .i64 x.2.1, .int .i64 x.2.2]] w fun e w' => e = .returned (.bool true) ∧ Below w.heap.size w w' := by
  obtain ⟨κ, i, u⟩ := x
  have BB := Lib.hid (below_on (below_al w (.cells #[.int .i64 B, .int .i64 (R : Int), .int .i64 self, .int .i64 peer, .int .i64 own] 25)) (below_al _ (.cells #[.int .i64 κ, .int .i64 i, .int .i64 u] 64)))
  rcases h with h | ⟨h, h'⟩ | ⟨f, s, j, hf1, hf8, hw, hx, hk⟩
  · obtain rfl : κ = 3 := h
    unfold baseV17
    clear hR hB
    go_enter Tryd.func47, Tryd.ntmps47
    go_wp2
    go_ret
    exact ⟨rfl, BB.out⟩
  · obtain rfl : i = peer := h'
    obtain rfl : κ = 4 := h
    unfold baseV17
    clear hR hB
    go_enter Tryd.func47, Tryd.ntmps47
    go_wp2
    go_ret
    exact ⟨by simp, BB.out⟩
  · obtain rfl : i = B + offP (R : Int) f s j := hx
    exact may17_word B self peer own R f s j κ u w hR hB ⟨hf1, hf8⟩ hw hk

theorem mayW17 {G : Tk} (f : Nat) (s : Int) (j : Nat) (κ u : Int) (hf : 1 ≤ f ∧ f ≤ 8) (hw : okWord (G.R : Int) f s j) (hk : (f = 2 ∨ f = 4 ∨ f = 6) ∧ κ = 2 ∨ ¬ (f = 2 ∨ f = 4 ∨ f = 6) ∧ κ = 1) : MayT17 G.B G.R G.peer (κ, ad17 G f s j, u) := by
  have hs : 0 ≤ s := by unfold okWord at hw; omega
  obtain ⟨n, rfl⟩ := Int.eq_ofNat_of_zero_le hs
  refine .inr (.inr ⟨f, n, j, hf.1, hf.2, hw, ?_, hk⟩)
  show ad17 G f n j = _
  unfold ad17 atV13
  rw [if_pos hw]

/-- What is recorded of an access is one touch, which a taker may make. -/
theorem mayT17 {G : Tk} (h : Ok17 G) (h0 : G.st ≠ 0) (V E : List Int) : ∃ x, aT17 V E (tch17 G) = [x] ∧ MayT17 G.B G.R G.peer x := by
  have h14 := h.st
  have hR := h.R64
  have hs := h.slot
  have : G.st = 1 ∨ G.st = 2 ∨ G.st = 3 ∨ G.st = 4 ∨ G.st = 5 ∨ G.st = 6 ∨ G.st = 7 ∨ G.st = 8 ∨ G.st = 9 ∨ G.st = 10 ∨ G.st = 11 ∨ G.st = 12 ∨ G.st = 13 ∨ G.st = 14 := by omega
  unfold aT17 tch17 dT14
  rcases this with e | e | e | e | e | e | e | e | e | e | e | e | e | e
  · exact ⟨(4, G.peer, nth14 E G.peer), by simp [e], .inr (.inl ⟨rfl, rfl⟩)⟩
  · exact ⟨(2, ad17 G 4 0 0, 0), by simp [e], mayW17 4 0 0 2 0 (by omega) (by unfold okWord; omega) (by omega)⟩
  · exact ⟨(2, ad17 G 2 0 0, ep17 G), by simp [e], mayW17 2 0 0 2 _ (by omega) (by unfold okWord; omega) (by omega)⟩
  · exact ⟨(3, 0, 0), by simp [e], .inl rfl⟩
  · exact ⟨(1, ad17 G 1 0 0, nth14 V (ad17 G 1 0 0)), by simp [e], mayW17 1 0 0 1 _ (by omega) (by unfold okWord; omega) (by omega)⟩
  · exact ⟨(1, ad17 G 3 0 0, nth14 V (ad17 G 3 0 0)), by simp [e], mayW17 3 0 0 1 _ (by omega) (by unfold okWord; omega) (by omega)⟩
  · have m1 := Int.emod_nonneg G.head (show (G.R : Int) ≠ 0 by omega)
    have m2 := Int.emod_lt_of_pos G.head (show (0 : Int) < (G.R : Int) by omega)
    exact ⟨(1, ad17 G 5 (G.head % (G.R : Int)) 0, nth14 V (ad17 G 5 (G.head % (G.R : Int)) 0)), by simp [e], mayW17 5 _ 0 1 _ (by omega) (by unfold okWord; omega) (by omega)⟩
  · exact ⟨(1, ad17 G 7 G.slot 0, nth14 V (ad17 G 7 G.slot 0)), by simp [e], mayW17 7 _ 0 1 _ (by omega) (by unfold okWord; omega) (by omega)⟩
  · have hw := h.word e
    exact ⟨(1, ad17 G 8 G.slot (G.load.length : Int), nth14 V (ad17 G 8 G.slot (G.load.length : Int))), by simp [e], mayW17 8 _ G.load.length 1 _ (by omega) (by unfold okWord; omega) (by omega)⟩
  · have m1 := Int.emod_nonneg G.used (show (G.R : Int) ≠ 0 by omega)
    have m2 := Int.emod_lt_of_pos G.used (show (0 : Int) < (G.R : Int) by omega)
    exact ⟨(2, ad17 G 6 (G.used % (G.R : Int)) 0, G.slot), by simp [e], mayW17 6 _ 0 2 _ (by omega) (by unfold okWord; omega) (by omega)⟩
  · exact ⟨(3, 0, 0), by simp [e], .inl rfl⟩
  · exact ⟨(2, ad17 G 4 0 0, addW G.used 1), by simp [e], mayW17 4 0 0 2 _ (by omega) (by unfold okWord; omega) (by omega)⟩
  · exact ⟨(3, 0, 0), by simp [e], .inl rfl⟩
  · exact ⟨(4, G.peer, nth14 E G.peer), by simp [e], .inr (.inl ⟨rfl, rfl⟩)⟩

#print axioms may17_any
#print axioms mayT17
end Go.Proofs.YtgdbaaoifnedbaaDoor
