/-
  slices.Equal at integers; == of a nil pointer and another one.
  Conditions: those that each theorem states.
-/
import Derived.Test.YtikjokhpombjjaaDoorOnly
import Derived.LaidEqlPtr
namespace Go.Proofs.YtikjokhpombjjaaDoor
open Go.ChangeShapes Go.WideShapes Go.ChangeAt Go.RowKit

set_option maxRecDepth 100000 in
set_option maxHeartbeats 1000000 in
theorem equal_quiet (P Q : Nat → Prop) (v u : Value) (x y : List Int) (w : World) (hv : Lies w P v (ints x)) (hu : Lies w Q u (ints y)) (hx : x.length ≤ 65536) (hy : y.length ≤ 65536) :
    Calls Tryd.prog 38 #[v, u] w fun e w' => e = .returned (.bool (decide (x = y))) ∧ ∃ m, w' = w.drewN m := by
  obtain ⟨A, c, rfl, hA⟩ := hv
  obtain ⟨B, d, rfl, hB⟩ := hu
  rw [ints_len] at hA hB
  rw [ints_len, ints_len]
  by_cases hl : x.length = y.length
  · obtain ⟨n, hn⟩ : ∃ n, x.length = n := ⟨_, rfl⟩
    have hm : y.length = n := hl.symm.trans hn
    rw [hn] at hA hx
    rw [hm] at hB
    rw [hn, hm]
    clear hy
    have HA := Lib.hid hA; clear hA
    have HB := Lib.hid hB; clear hB
    have HN := Lib.hid hn; clear hn
    have HM := Lib.hid hm; clear hm hl
    go_enter Tryd.func38, Tryd.ntmps38
    go_wp2
    go_loopw [13] (fun i wr => ∃ k : Nat, k ≤ n ∧ i = .int .i64 k ∧ Hid (x.take k = y.take k) ∧ Hid (∃ q, wr = w.drewN q)) (fun i _ => n - (intOf i).toNat)
    case atStart => exact ⟨0, Nat.zero_le _, rfl, by unfold Hid; simp, Lib.hid ⟨0, rfl⟩⟩
    case round =>
      obtain ⟨k, hk, rfl, ht, hq⟩ := hrel
      obtain ⟨q, rfl⟩ := hq.out
      by_cases hlt : k < n
      · obtain ⟨g, o, rfl, hP, hg, hc⟩ := HA.out (by omega)
        obtain ⟨g', o', rfl, hQ, hg', hc'⟩ := HB.out (by omega)
        obtain ⟨a, ha⟩ : ∃ a, x[k]? = some a := ⟨_, List.getElem?_eq_getElem (by rw [HN.out]; exact hlt)⟩
        obtain ⟨b, hb'⟩ : ∃ b, y[k]? = some b := ⟨_, List.getElem?_eq_getElem (by rw [HM.out]; exact hlt)⟩
        have c1 : w.cell? ⟨g, o + k, none⟩ = some (.int .i64 a) := hc k _ (ints_some ha)
        have c2 : w.cell? ⟨g', o' + k, none⟩ = some (.int .i64 b) := hc' k _ (ints_some hb')
        have A1 := Lib.hid ha; clear ha
        have B1 := Lib.hid hb'; clear hb' hc hc'
        by_cases he : a = b
        · subst he
          go_wp2
          go_quiet (fail)
          go_wp2
          go_roundw
          case rel => exact ⟨k + 1, by omega, by go_num, Lib.hid (take_more ht.out A1.out B1.out), Lib.hid ⟨_, rfl⟩⟩
          case measure => simp [intOf]; omega
        · have hne : (a != b) = true := by simpa using he
          have hxy : decide (x = y) = false := by
            rw [decide_eq_false_iff_not]
            rintro rfl
            exact he (by have := A1.out.symm.trans B1.out; injection this)
          have HX := Lib.hid hxy; clear hxy
          clear he
          go_wp2
          go_quiet (fail)
          go_wp2
          go_ret
          exact ⟨by rw [HX.out]; rfl, _, World.drewN_drewN _ _ _⟩
      · obtain rfl : k = n := by omega
        have hxy : decide (x = y) = true := by rw [decide_eq_true_iff]; exact take_whole ht.out HN.out HM.out
        have HX := Lib.hid hxy; clear hxy
        go_wp2
        go_ret
        exact ⟨by rw [HX.out]; rfl, _, rfl⟩
  · have hne : ((x.length : Int) != (y.length : Int)) = true := by simpa using (by omega : (x.length : Int) ≠ y.length)
    have hxy : decide (x = y) = false := by
      rw [decide_eq_false_iff_not]
      rintro rfl
      exact hl rfl
    have HX := Lib.hid hxy; clear hxy
    go_enter Tryd.func38, Tryd.ntmps38
    go_wp2
    go_ret
    exact ⟨by rw [HX.out]; rfl, 0, rfl⟩

theorem nil_left {P : Program} (t te : TypeId) (a : Addr) (h : P.underlying t = some (.pointer te)) (w : World) : (binOp .eql t (.pointer none) (.pointer (some a))).run P w = .ok (.bool false) w := by
  have e : ∀ d : Nat, (Op.equalIn (d + 1) t (.pointer none) (.pointer (some a))).run P w = .ok false w := fun d => by simp [Op.equalIn, run_underlying h]
  have e' : (Op.equal t (.pointer none) (.pointer (some a))).run P w = .ok false w := e 9999
  simp only [binOp]
  simp [e']

#print axioms equal_quiet
#print axioms nil_left
end Go.Proofs.YtikjokhpombjjaaDoor
