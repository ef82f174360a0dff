/-
  The reference of layer 9: the walk of Same.
  Conditions: those that each theorem states.
-/
import Derived.Test.YtfboikefjealfaaRMb8
namespace Go.Proofs.Ytfboikefjealfaa
open Go.ChangeShapes Go.WideShapes Go.ChangeAt Go.RowKit

set_option maxRecDepth 100000 in
set_option maxHeartbeats 4000000 in
theorem rsame9_quiet (P Q : Nat → Prop) (ms ns : List Mail) (v u : Value) (w : World) (r : RBox w P ms v) (r' : RBox w Q ns u) :
    Calls Try.prog 16 #[v, u] w fun e w' => e = .returned (.bool (decide (ms = ns))) ∧ ∃ m, w' = w.drewN m := by
  obtain ⟨A, c, rfl⟩ := r.open_
  obtain ⟨A', c', rfl⟩ := r'.open_
  have hm := r.most
  have hm' := r'.most
  by_cases hl : ms.length = ns.length
  · obtain ⟨n, hn⟩ : ∃ n, ms.length = n := ⟨_, rfl⟩
    have hn' : ns.length = n := hl.symm.trans hn
    rw [hn] at r hm ⊢
    rw [hn'] at r' ⊢
    have R := Lib.hid r
    have R' := Lib.hid r'
    have HN := Lib.hid hn
    have HN' := Lib.hid hn'
    have hne : ((n : Int) != (n : Int)) = false := by simp
    clear r r' hn hn' hl hm'
    go_enter Try.func16, Try.ntmps16
    go_wp2
    go_loopw [5] (fun i wr => ∃ k : Nat, k ≤ n ∧ i = .int .i64 k ∧ Hid (ms.take k = ns.take k) ∧ Hid (∃ q, wr = w.drewN q)) (fun i _ => n - (intOf i).toNat)
    case atStart => exact ⟨0, Nat.zero_le _, rfl, by unfold Hid; simp, Lib.hid ⟨0, rfl⟩⟩
    case round =>
      obtain ⟨k, hk, rfl, HT, HQ⟩ := hrel
      obtain ⟨q, rfl⟩ := HQ.out
      by_cases hlt : k < n
      · obtain ⟨⟨la, qa⟩, hx⟩ : ∃ x, ms[k]? = some x := ⟨_, List.getElem?_eq_getElem (by rw [HN.out]; exact hlt)⟩
        obtain ⟨⟨lb, qb⟩, hy⟩ : ∃ y, ns[k]? = some y := ⟨_, List.getElem?_eq_getElem (by rw [HN'.out]; exact hlt)⟩
        obtain ⟨g, o, lv, rfl, _, hgl, hcell, hv, hcv⟩ := R.out.core hx
        obtain ⟨g', o', lv', rfl, _, hgl', hcell', hv', hcv'⟩ := R'.out.core hy
        obtain ⟨Av, nv, cv, rfl, HNV, HV⟩ := hv.open_
        obtain ⟨Av', nv', cv', rfl, HNV', HV'⟩ := hv'.open_
        obtain ⟨a0, a1, a2, a3, a4, a5, a6, a7, ha⟩ := bools8 (R.out.ok k _ hx).len
        obtain ⟨b0, b1, b2, b3, b4, b5, b6, b7, hb⟩ := bools8 (R'.out.ok k _ hy).len
        simp only at ha hb
        subst ha hb
        rw [rcL_lit rfl] at hcell hcell'
        have n1 : qa.length = nv := by have := HNV.out; rwa [its_len] at this
        have n2 : qb.length = nv' := by have := HNV'.out; rwa [its_len] at this
        have x0 := hcell 0 _ rfl
        have x1 := hcell 1 _ rfl
        have x2 := hcell 2 _ rfl
        have x3 := hcell 3 _ rfl
        have x4 := hcell 4 _ rfl
        have x5 := hcell 5 _ rfl
        have x6 := hcell 6 _ rfl
        have x7 := hcell 7 _ rfl
        have x8 := hcell 8 _ rfl
        have y0 := hcell' 0 _ rfl
        have y1 := hcell' 1 _ rfl
        have y2 := hcell' 2 _ rfl
        have y3 := hcell' 3 _ rfl
        have y4 := hcell' 4 _ rfl
        have y5 := hcell' 5 _ rfl
        have y6 := hcell' 6 _ rfl
        have y7 := hcell' 7 _ rfl
        have y8 := hcell' 8 _ rfl
        rw [Nat.add_zero] at x0 y0
        have i0 : (0 : Int) ≤ (k : Int) := by omega
        have i1 : (k : Int) < (n : Int) := by omega
        have m1 : nv ≤ 16 := by have := (R.out.ok k _ hx).fit; simp only at this; omega
        have m2 : nv' ≤ 16 := by have := (R'.out.ok k _ hy).fit; simp only at this; omega
        have HX := Lib.hid hx
        have HY := Lib.hid hy
        have N1 := Lib.hid n1
        have N2 := Lib.hid n2
        clear hx hy hcell hcell' hv hv' hcv hcv' n1 n2 HNV HNV'
        have nb := neq_b8 a0 a1 a2 a3 a4 a5 a6 a7 b0 b1 b2 b3 b4 b5 b6 b7
        by_cases hbits : [a0, a1, a2, a3, a4, a5, a6, a7] = [b0, b1, b2, b3, b4, b5, b6, b7]
        · have e1 : (!decide ([a0, a1, a2, a3, a4, a5, a6, a7] = [b0, b1, b2, b3, b4, b5, b6, b7])) = false := by simp only [hbits, decide_true, Bool.not_true]
          rw [e1] at nb
          by_cases hlen : nv = nv'
          · have hln : ((nv : Int) != (nv' : Int)) = false := by rw [hlen]; simp
            have HBI := Lib.hid hbits
            have HLE := Lib.hid hlen
            clear hbits hlen e1
            go_wp2
            go_quiet (fail)
            go_wp2
            clear nb
            go_loopw [6] (fun i wr => ∃ d : Nat, d ≤ nv ∧ i = .int .i64 d ∧ Hid (qa.take d = qb.take d) ∧ Hid (∃ q, wr = w.drewN q)) (fun i _ => nv - (intOf i).toNat)
            case atStart => exact ⟨0, Nat.zero_le _, rfl, by unfold Hid; simp, Lib.hid ⟨_, World.drewN_drewN _ _ _⟩⟩
            case round =>
              obtain ⟨d, hd, rfl, HT2, HQ2⟩ := hrel
              obtain ⟨q2, rfl⟩ := HQ2.out
              by_cases hdl : d < nv
              · obtain ⟨⟨p1, p2⟩, hp⟩ : ∃ y, qa[d]? = some y := ⟨_, List.getElem?_eq_getElem (by rw [N1.out]; exact hdl)⟩
                obtain ⟨⟨r1, r2⟩, hr⟩ : ∃ y, qb[d]? = some y := ⟨_, List.getElem?_eq_getElem (by rw [N2.out, ← HLE.out]; exact hdl)⟩
                obtain ⟨gi, oi, rfl, _, hgi, s0, s1⟩ := HV.out.cells (its_at hp)
                obtain ⟨gj, oj, rfl, _, hgj, t0, t1⟩ := HV'.out.cells (its_at hr)
                simp only at s0 s1 t0 t1
                have d0 : (0 : Int) ≤ (d : Int) := by omega
                have d1 : (d : Int) < (nv : Int) := by omega
                have d2 : (d : Int) < (nv' : Int) := by have := HLE.out; omega
                have ni := fun W => neq_it p1 p2 r1 r2 W
                have HPP := Lib.hid hp
                have HRR := Lib.hid hr
                clear hp hr
                by_cases he : p1 = r1 ∧ p2 = r2
                · obtain ⟨rfl, rfl⟩ := he
                  have e2 : (!(p1 == p1 && p2 == p2)) = false := by simp
                  simp only [e2] at ni
                  go_wp2
                  go_quiet (fail)
                  go_wp2
                  go_roundw
                  case rel => exact ⟨d + 1, by omega, by go_num, Lib.hid (take_moreG HT2.out HPP.out HRR.out), Lib.hid ⟨_, rfl⟩⟩
                  case measure => simp [intOf]; omega
                · have e2 : (!(p1 == r1 && p2 == r2)) = true := by
                    simp only [Bool.not_eq_true', Bool.and_eq_false_iff, beq_eq_false_iff_ne]
                    by_cases h1 : p1 = r1
                    · exact .inr (fun h2 => he ⟨h1, h2⟩)
                    · exact .inl h1
                  simp only [e2] at ni
                  have ef : decide (ms = ns) = false := by
                    rw [decide_eq_false_iff_not]
                    rintro rfl
                    have h1 := HX.out.symm.trans HY.out
                    injection h1 with h1
                    injection h1 with _ h1
                    subst h1
                    have h2 := HPP.out.symm.trans HRR.out
                    injection h2 with h2
                    injection h2 with h3 h4
                    exact he ⟨h3, h4⟩
                  have EF := Lib.hid ef
                  clear ef he e2
                  go_wp2
                  go_quiet (fail)
                  go_wp2
                  go_ret
                  exact ⟨by rw [EF.out]; rfl, _, World.drewN_drewN _ _ _⟩
              · obtain rfl : d = nv := by omega
                have hxy : (([a0, a1, a2, a3, a4, a5, a6, a7], qa) : Mail) = ([b0, b1, b2, b3, b4, b5, b6, b7], qb) := by
                  rw [HBI.out, take_wholeG HT2.out N1.out (by rw [N2.out, HLE.out])]
                have HXY := Lib.hid hxy
                clear hxy
                go_wp2
                go_roundw
                case rel => exact ⟨k + 1, by omega, by go_num, Lib.hid (take_moreG HT.out HX.out (by rw [HXY.out]; exact HY.out)), Lib.hid ⟨_, rfl⟩⟩
                case measure => simp [intOf]; omega
          · have hln : ((nv : Int) != (nv' : Int)) = true := by simp; omega
            have ef : decide (ms = ns) = false := by
              rw [decide_eq_false_iff_not]
              rintro rfl
              have h1 := HX.out.symm.trans HY.out
              injection h1 with h1
              injection h1 with _ h1
              subst h1
              exact hlen (N1.out.symm.trans N2.out)
            have EF := Lib.hid ef
            clear ef hlen hbits e1
            go_wp2
            go_quiet (fail)
            go_wp2
            go_ret
            exact ⟨by rw [EF.out]; rfl, _, World.drewN_drewN _ _ _⟩
        · have e1 : (!decide ([a0, a1, a2, a3, a4, a5, a6, a7] = [b0, b1, b2, b3, b4, b5, b6, b7])) = true := by rw [decide_eq_false hbits]; rfl
          rw [e1] at nb
          have ef : decide (ms = ns) = false := by
            rw [decide_eq_false_iff_not]
            rintro rfl
            have h1 := HX.out.symm.trans HY.out
            injection h1 with h1
            injection h1 with h1 _
            exact hbits h1
          have EF := Lib.hid ef
          clear ef hbits e1
          go_wp2
          go_quiet (fail)
          go_wp2
          go_ret
          exact ⟨by rw [EF.out]; rfl, _, World.drewN_drewN _ _ _⟩
      · obtain rfl : k = n := by omega
        have ef : decide (ms = ns) = true := by rw [decide_eq_true_iff]; exact take_wholeG HT.out HN.out HN'.out
        have EF := Lib.hid ef
        clear ef
        go_wp2
        go_ret
        exact ⟨by rw [EF.out]; rfl, _, rfl⟩
  · have hne : ((ms.length : Int) != (ns.length : Int)) = true := by simpa using (by omega : (ms.length : Int) ≠ ns.length)
    have ef : decide (ms = ns) = false := by
      rw [decide_eq_false_iff_not]
      rintro rfl
      exact hl rfl
    have EF := Lib.hid ef
    clear ef r r'
    go_enter Try.func16, Try.ntmps16
    go_wp2
    go_ret
    exact ⟨by rw [EF.out]; rfl, 0, rfl⟩

#print axioms rsame9_quiet
end Go.Proofs.Ytfboikefjealfaa
