/-
  Layer 19 (diary): Count, of the program and of the reference.
  Conditions: those that each theorem states.
-/
import Derived.Test.YtikjokhpombjjaaDoorDi8
namespace Go.Proofs.YtikjokhpombjjaaDoor
open Go.ChangeShapes Go.WideShapes Go.ChangeAt Go.RowKit

/-- Whether an entry counts: its kind, its result, and that it has ended. -/
def hitB (k e : Int) (x : En) : Bool := x.kind == k && x.err == e && x.fin != 0

theorem len_yes {l : List En} {k : Nat} {x : En} {q : En → Bool} (hx : l[k]? = some x) (h : q x = true) : ((l.take (k + 1)).filter q).length = ((l.take k).filter q).length + 1 := by
  rw [List.take_add_one, hx, List.filter_append]
  simp [h]
theorem len_no {l : List En} {k : Nat} {x : En} {q : En → Bool} (hx : l[k]? = some x) (h : q x = false) : ((l.take (k + 1)).filter q).length = ((l.take k).filter q).length := by
  rw [List.take_add_one, hx, List.filter_append]
  simp [h]

set_option maxRecDepth 100000 in
set_option maxHeartbeats 4000000 in
theorem count19_any (κ ε : Int) (v : Value) (l : List En) (w : World) (hv : Ens w v l) (hm : l.length ≤ 1000) :
    Calls Tryd.prog 18 #[v, .int .i64 κ, .int .i64 ε] w fun e w' => e = .returned (.int .i64 ((l.filter (hitB κ ε)).length : Nat)) ∧ Below w.heap.size w w' := by
  obtain ⟨A, n, c, rfl, HN, HV⟩ := hv.open_
  rw [HN.out] at hm
  clear hv
  go_enter Tryd.func18, Tryd.ntmps18
  go_wp2
  go_loopw [7, 12] (fun nv iv wr => ∃ k m : Nat, k ≤ n ∧ m ≤ k ∧ iv = .int .i64 k ∧ nv = .int .i64 m ∧ Hid (m = ((l.take k).filter (hitB κ ε)).length) ∧ Hid (Below w.heap.size w wr)) (fun _ iv _ => n - (intOf iv).toNat)
  case atStart => exact ⟨0, 0, Nat.zero_le _, Nat.le_refl _, rfl, rfl, Lib.hid rfl, Lib.hid (Below.refl _ _)⟩
  case round =>
    obtain ⟨k, m, hk, hmk, rfl, rfl, HM, HB⟩ := hrel
    by_cases hlt : k < n
    · obtain ⟨x, hx⟩ : ∃ x, l[k]? = some x := ⟨_, List.getElem?_eq_getElem (by rw [HN.out]; exact hlt)⟩
      obtain ⟨g, o, u, rfl, hg, hl, c0, c1, c2, c3, c4, c5, c6, c7⟩ := (HV.out.below HB.out).cells hx
      obtain ⟨Au, nu, cu, rfl, _, _⟩ := ld_open hl
      have KE := Lib.hid (fun W => ended19_any x (.slice Au nu cu) W)
      have hkn : (k : Int) < (n : Int) := by omega
      have HX := Lib.hid hx
      clear hl hx
      simp only [row19] at KE
      obtain ⟨b1, h1⟩ : ∃ b, (x.kind == κ) = b := ⟨_, rfl⟩
      obtain ⟨b2, h2⟩ : ∃ b, (x.err == ε) = b := ⟨_, rfl⟩
      obtain ⟨b3, h3⟩ : ∃ b, (x.fin != 0) = b := ⟨_, rfl⟩
      have HH : Hid (hitB κ ε x = (b1 && b2 && b3)) := Lib.hid (by simp only [hitB, h1, h2, h3])
      rw [h3] at KE
      cases b1 with
      | false =>
        go_wp2
        go_roundw
        case rel => exact ⟨k + 1, m, by omega, by omega, by go_num, rfl, Lib.hid (by rw [HM.out, len_no HX.out HH.out]), Lib.hid (below_on HB.out (show Below wr.heap.size wr _ from by go_grown))⟩
        case measure => simp [intOf]; omega
      | true =>
        cases b2 with
        | false =>
          go_wp2
          go_roundw
          case rel => exact ⟨k + 1, m, by omega, by omega, by go_num, rfl, Lib.hid (by rw [HM.out, len_no HX.out HH.out]), Lib.hid (below_on HB.out (show Below wr.heap.size wr _ from by go_grown))⟩
          case measure => simp [intOf]; omega
        | true =>
          cases b3 with
          | false =>
            go_wp2_with (go_at_call 28; refine (KE.out _).mono ?_; rintro e w1 ⟨rfl, b1⟩; have B2 := Lib.hid (below_on (show Below wr.heap.size wr _ from by go_grown) b1); clear b1)
            go_roundw
            case rel => exact ⟨k + 1, m, by omega, by omega, by go_num, rfl, Lib.hid (by rw [HM.out, len_no HX.out HH.out]), Lib.hid (below_on HB.out B2.out)⟩
            case measure => simp [intOf]; omega
          | true =>
            go_wp2_with (go_at_call 28; refine (KE.out _).mono ?_; rintro e w1 ⟨rfl, b1⟩; have B2 := Lib.hid (below_on (show Below wr.heap.size wr _ from by go_grown) b1); clear b1)
            go_roundw
            case rel => exact ⟨k + 1, m + 1, by omega, by omega, by go_num, by go_num, Lib.hid (by rw [HM.out, len_yes HX.out HH.out]), Lib.hid (below_on HB.out B2.out)⟩
            case measure => simp [intOf]; omega
    · obtain rfl : n = k := by omega
      have HF : Hid ((l.filter (hitB κ ε)).length = m) := Lib.hid (by rw [HM.out, ← HN.out, List.take_length])
      go_wp2
      go_ret
      exact ⟨by rw [HF.out]; rfl, HB.out⟩

set_option maxRecDepth 100000 in
set_option maxHeartbeats 4000000 in
theorem rcount19_any (κ ε : Int) (v : Value) (l : List En) (w : World) (hv : Ens w v l) (hm : l.length ≤ 1000) :
    Calls Tryd.prog 19 #[v, .int .i64 κ, .int .i64 ε] w fun e w' => e = .returned (.int .i64 ((l.filter (hitB κ ε)).length : Nat)) ∧ w = w' := by
  obtain ⟨A, n, c, rfl, HN, HV⟩ := hv.open_
  rw [HN.out] at hm
  clear hv
  go_enter Tryd.func19, Tryd.ntmps19
  go_wp2
  go_loopw [7, 8] (fun nv iv wr => ∃ k m : Nat, k ≤ n ∧ m ≤ k ∧ iv = .int .i64 k ∧ nv = .int .i64 m ∧ Hid (m = ((l.take k).filter (hitB κ ε)).length) ∧ w = wr) (fun _ iv _ => n - (intOf iv).toNat)
  case atStart => exact ⟨0, 0, Nat.zero_le _, Nat.le_refl _, rfl, rfl, Lib.hid rfl, rfl⟩
  case round =>
    obtain ⟨k, m, hk, hmk, rfl, rfl, HM, rfl⟩ := hrel
    by_cases hlt : k < n
    · obtain ⟨x, hx⟩ : ∃ x, l[k]? = some x := ⟨_, List.getElem?_eq_getElem (by rw [HN.out]; exact hlt)⟩
      obtain ⟨g, o, u, rfl, hg, hl, c0, c1, c2, c3, c4, c5, c6, c7⟩ := HV.out.cells hx
      have hkn : (k : Int) < (n : Int) := by omega
      have HX := Lib.hid hx
      clear hl hx
      obtain ⟨b1, h1⟩ : ∃ b, (x.kind == κ) = b := ⟨_, rfl⟩
      obtain ⟨b2, h2⟩ : ∃ b, (x.err == ε) = b := ⟨_, rfl⟩
      obtain ⟨b3, h3⟩ : ∃ b, (x.fin != 0) = b := ⟨_, rfl⟩
      have HH : Hid (hitB κ ε x = (b1 && b2 && b3)) := Lib.hid (by simp only [hitB, h1, h2, h3])
      cases b1 <;> cases b3 <;> cases b2
      case true.true.true =>
        go_wp2
        go_roundw
        case rel => exact ⟨k + 1, m + 1, by omega, by omega, by go_num, by go_num, Lib.hid (by rw [HM.out, len_yes HX.out HH.out]), trivial⟩
        case measure => simp [intOf]; omega
      all_goals (
        go_wp2
        go_roundw
        case rel => exact ⟨k + 1, m, by omega, by omega, by go_num, rfl, Lib.hid (by rw [HM.out, len_no HX.out HH.out]), trivial⟩
        case measure => simp [intOf]; omega)
    · obtain rfl : n = k := by omega
      have HF : Hid ((l.filter (hitB κ ε)).length = m) := Lib.hid (by rw [HM.out, ← HN.out, List.take_length])
      go_wp2
      go_ret
      exact ⟨by rw [HF.out]; rfl, rfl⟩

#print axioms count19_any
#print axioms rcount19_any
end Go.Proofs.YtikjokhpombjjaaDoor
