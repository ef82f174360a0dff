/-
  Layer 9 (mbox): EqualFunc, Same.
  Conditions: those that each theorem states.
-/
import Derived.Test.YtfboikefjealfaaMb13
namespace Go.Proofs.Ytfboikefjealfaa
open Go.ChangeShapes Go.WideShapes Go.ChangeAt Go.RowKit

theorem take_moreG {α : Type} {x y : List α} {k : Nat} {u : α} (h : x.take k = y.take k) (hx : x[k]? = some u) (hy : y[k]? = some u) : x.take (k + 1) = y.take (k + 1) := by
  rw [List.take_add_one, List.take_add_one, h, hx, hy]
theorem take_wholeG {α : Type} {x y : List α} {k : Nat} (h : x.take k = y.take k) (hx : x.length = k) (hy : y.length = k) : x = y := by
  rwa [List.take_of_length_le (by omega), List.take_of_length_le (by omega)] at h

set_option maxRecDepth 100000 in
set_option maxHeartbeats 2000000 in
theorem equalFunc9 (L L' : MLay) (ms ns : List Mail) (w : World) (r : BoxAt w L ms) (r' : BoxAt w L' ns) :
    Calls Try.prog 31 #[.slice (some ⟨L.mb, 0, none⟩) ms.length ms.length, .slice (some ⟨L'.mb, 0, none⟩) ns.length ns.length, .func (.func 32) #[] #[]] w fun e w' => e = .returned (.bool (decide (ms = ns))) ∧ Below w.heap.size w w' := by
  have hm := r.most
  have hm' := r'.most
  by_cases hl : ms.length = ns.length
  · obtain ⟨n, hn⟩ : ∃ n, ms.length = n := ⟨_, rfl⟩
    have hn' : ns.length = n := hl.symm.trans hn
    have R := Lib.hid r
    have R' := Lib.hid r'
    rw [hn] at hm
    rw [hn, hn']
    have HN := Lib.hid hn
    have HN' := Lib.hid hn'
    have hne : ((n : Int) != (n : Int)) = false := by simp
    clear r r' hn hn' hl hm'
    go_enter Try.func31, Try.ntmps31
    go_wp2_with fail
    go_loopw [17] (fun c wr => ∃ k : Nat, k ≤ n ∧ c = .int .i64 k ∧ Hid (ms.take k = ns.take k) ∧ Hid (Below w.heap.size w wr)) (fun c _ => n - (intOf c).toNat)
    case atStart => exact ⟨0, Nat.zero_le _, rfl, by unfold Hid; simp, Lib.hid (Below.refl _ _)⟩
    case round =>
      obtain ⟨k, hk, rfl, HT, HB⟩ := hrel
      by_cases hlt : k < n
      · obtain ⟨x, hx⟩ : ∃ x, ms[k]? = some x := ⟨_, List.getElem?_eq_getElem (by rw [HN.out]; exact hlt)⟩
        obtain ⟨y, hy⟩ : ∃ y, ns[k]? = some y := ⟨_, List.getElem?_eq_getElem (by rw [HN'.out]; exact hlt)⟩
        have e1 : wr.cell? ⟨L.mb, k * 2, none⟩ = some (.int .i64 (maskB x.1)) := by rw [(R.out.row.below HB.out).cell]; exact (mc_at hx).1
        have e2 : wr.cell? ⟨L.mb, k * 2 + 1, none⟩ = some (.pointer (some ⟨L.gf k, 0, none⟩)) := by rw [(R.out.row.below HB.out).cell]; exact (mc_at hx).2
        have d1 : wr.cell? ⟨L'.mb, k * 2, none⟩ = some (.int .i64 (maskB y.1)) := by rw [(R'.out.row.below HB.out).cell]; exact (mc_at hy).1
        have d2 : wr.cell? ⟨L'.mb, k * 2 + 1, none⟩ = some (.pointer (some ⟨L'.gf k, 0, none⟩)) := by rw [(R'.out.row.below HB.out).cell]; exact (mc_at hy).2
        have hlm : L'.mb < wr.heap.size := (R'.out.row.below HB.out).lt
        have hlm2 : L'.mb ≠ wr.heap.size := by omega
        have AL := Lib.hid (fun o o' : Obj => alike9 (L.gf k) (L.hf k) (L'.gf k) (L'.hf k) x y ((wr.alloc o).alloc o') (R.out.ok k x hx) (R'.out.ok k y hy) (((R.out.q k x hx).below HB.out).below (below_on (below_al _ _) (below_al _ _))) (((R'.out.q k y hy).below HB.out).below (below_on (below_al _ _) (below_al _ _))))
        have HX := Lib.hid hx
        have HY := Lib.hid hy
        clear hx hy
        by_cases hxy : x = y
        · subst hxy
          have et : decide (x = x) = true := by simp
          rw [et] at AL
          clear et
          go_wp2_with fail
          refine (AL.out _ _).mono ?_
          rintro e w1 ⟨rfl, hb1⟩
          have HB1 := Lib.hid (below_on HB.out (below_on (below_on (below_al _ _) (below_al _ _)) hb1))
          clear hb1
          go_wp2_with fail
          go_roundw
          case rel => exact ⟨k + 1, by omega, by go_num, Lib.hid (take_moreG HT.out HX.out HY.out), HB1⟩
          case measure => simp [intOf]; omega
        · have et : decide (x = y) = false := by simpa using hxy
          have ef : decide (ms = ns) = false := by
            rw [decide_eq_false_iff_not]
            rintro rfl
            exact hxy (by have := HX.out.symm.trans HY.out; injection this)
          rw [et] at AL
          have EF := Lib.hid ef
          clear et hxy ef
          go_wp2_with fail
          refine (AL.out _ _).mono ?_
          rintro e w1 ⟨rfl, hb1⟩
          have HB1 := Lib.hid (below_on HB.out (below_on (below_on (below_al _ _) (below_al _ _)) hb1))
          clear hb1
          go_wp2_with fail
          go_ret
          exact ⟨by rw [EF.out]; rfl, HB1.out⟩
      · obtain rfl : k = n := by omega
        have ef : decide (ms = ns) = true := by rw [decide_eq_true_iff]; exact take_wholeG HT.out HN.out HN'.out
        have EF := Lib.hid ef
        clear ef
        go_wp2_with fail
        go_ret
        exact ⟨by rw [EF.out]; rfl, HB.out⟩
  · have hne : ((ms.length : Int) != (ns.length : Int)) = true := by simpa using (by omega : (ms.length : Int) ≠ ns.length)
    have ef : decide (ms = ns) = false := by
      rw [decide_eq_false_iff_not]
      rintro rfl
      exact hl rfl
    have EF := Lib.hid ef
    clear ef r r'
    go_enter Try.func31, Try.ntmps31
    go_wp2_with fail
    go_ret
    exact ⟨by rw [EF.out]; rfl, Below.refl _ _⟩

set_option maxRecDepth 100000 in
set_option maxHeartbeats 2000000 in
theorem same9_any (L L' : MLay) (ms ns : List Mail) (w : World) (r : BoxAt w L ms) (r' : BoxAt w L' ns) :
    Calls Try.prog 15 #[.pointer (some ⟨L.g, 0, none⟩), .pointer (some ⟨L'.g, 0, none⟩)] w fun e w' => e = .returned (.bool (decide (ms = ns))) ∧ Below w.heap.size w w' := by
  have c0 : w.cell? ⟨L.g, 0, none⟩ = some (.slice (some ⟨L.mb, 0, none⟩) ms.length ms.length) := r.top.cell 0
  have d0 : w.cell? ⟨L'.g, 0, none⟩ = some (.slice (some ⟨L'.mb, 0, none⟩) ns.length ns.length) := r'.top.cell 0
  have EQ := Lib.hid (fun W (hb : Below w.heap.size w W) => (equalFunc9 L L' ms ns W (r.below hb) (r'.below hb)).mono (R' := fun e w' => e = .returned (.bool (decide (ms = ns))) ∧ Below w.heap.size w w') (fun e w' ⟨he, hb'⟩ => ⟨he, below_on hb hb'⟩))
  have KK := Lib.hid (fun (W : World) (hb : Below w.heap.size w W) => (show W.cell? ⟨L.g, 0, none⟩ = some (.slice (some ⟨L.mb, 0, none⟩) ms.length ms.length) ∧ W.cell? ⟨L'.g, 0, none⟩ = some (.slice (some ⟨L'.mb, 0, none⟩) ns.length ns.length) ∧ Below w.heap.size w W from ⟨(r.top.below hb).cell 0, (r'.top.below hb).cell 0, hb⟩))
  obtain ⟨D, hD⟩ : ∃ D, decide (ms = ns) = D := ⟨_, rfl⟩
  rw [hD] at EQ ⊢
  have hb0 : Below w.heap.size w w := Below.refl _ _
  clear r r' hD
  go_enter Try.func15, Try.ntmps15
  go_wp2_with fail
  go_region_held3 (fun W => W.cell? ⟨L.g, 0, none⟩ = some (.slice (some ⟨L.mb, 0, none⟩) ms.length ms.length) ∧ W.cell? ⟨L'.g, 0, none⟩ = some (.slice (some ⟨L'.mb, 0, none⟩) ns.length ns.length) ∧ Below w.heap.size w W)
    (first | exact KK.out _ hb1 | exact KK.out _ hb0.drew | exact KK.out _ hb0 | go_keep)
    (first
      | (go_at_call 31; refine (EQ.out _ ?_).mono ?_; (go_split_ands; assumption); rintro e w1 ⟨rfl, hb1⟩))
  all_goals go_wp2
  all_goals go_ret
  all_goals exact ⟨rfl, hb1⟩

set_option maxRecDepth 100000 in
set_option maxHeartbeats 400000 in
theorem same9_nil (w : World) :
    Calls Try.prog 15 #[.pointer none, .pointer none] w fun e w' => e = .returned (.bool true) ∧ w = w' := by
  go_enter Try.func15, Try.ntmps15
  go_wp2
  go_ret
  exact ⟨rfl, rfl⟩

set_option maxRecDepth 100000 in
set_option maxHeartbeats 400000 in
theorem same9_left (g : Nat) (w : World) :
    Calls Try.prog 15 #[.pointer none, .pointer (some ⟨g, 0, none⟩)] w fun e w' => e = .returned (.bool false) ∧ w = w' := by
  have hn := fun W => nil_left (P := Try.prog) 24 62 ⟨g, 0, none⟩ Try.underlying24 W
  go_enter Try.func15, Try.ntmps15
  go_wp2
  go_ret
  exact ⟨rfl, rfl⟩

set_option maxRecDepth 100000 in
set_option maxHeartbeats 400000 in
theorem same9_right (g : Nat) (w : World) :
    Calls Try.prog 15 #[.pointer (some ⟨g, 0, none⟩), .pointer none] w fun e w' => e = .returned (.bool false) ∧ w = w' := by
  go_enter Try.func15, Try.ntmps15
  go_wp2
  go_ret
  exact ⟨rfl, rfl⟩

#print axioms same9_any
#print axioms same9_left
end Go.Proofs.Ytfboikefjealfaa
