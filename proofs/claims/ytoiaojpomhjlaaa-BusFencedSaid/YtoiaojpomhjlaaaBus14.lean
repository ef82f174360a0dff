/-
  Layer 6 (bus): Same, of two buses in the same state.
  Conditions: those that each theorem states.
-/
import Derived.Test.YtoiaojpomhjlaaaBus10
namespace Go.Proofs.Ytoiaojpomhjlaaa
open Go.ChangeShapes Go.WideShapes Go.ChangeAt Go.RowKit

theorem all_lies {w : World} {b : Nat} {q : List (Int × Int)} (h : Row w b 112 (cvs q)) : Lies w (fun _ => True) (.slice (some ⟨b, 0, none⟩) q.length q.length) (cvs q) := by
  have := Lies.of_row (P := fun _ => True) h trivial q.length
  rwa [cvs_len] at this

set_option maxRecDepth 100000 in
set_option maxHeartbeats 1000000 in
theorem alike_yes (g : Nat) (h : Option Nat) (g' : Nat) (h' : Option Nat) (N : Nat) (q : List (Int × Int)) (w : World) (b : BufQ w g h N q) (b' : BufQ w g' h' N q) :
    Calls Try.prog 47 #[ptr g, ptr g'] w fun e w' => e = .returned (.bool true) ∧ Below w.heap.size w w' := by
  have hf := b.fit
  have k1 := Lib.hid (bcap_any g h N q w b)
  have k2 := Lib.hid (bcap_any g' h' N q w b')
  have k3 := Lib.hid (ball_any g h N q w b)
  have B' := Lib.hid b'
  have HG := Lib.hid hf
  have hne : ((N : Int) == (N : Int)) = true := by simp
  clear b b' hf
  unfold ptr at k1 k2 k3 ⊢
  go_enter Try.func47, Try.ntmps47
  go_wp2_with fail
  refine k1.out.mono ?_
  rintro e w' ⟨rfl, rfl⟩
  go_wp2_with fail
  refine k2.out.mono ?_
  rintro e w' ⟨rfl, rfl⟩
  go_wp2_with fail
  refine k3.out.mono ?_
  rintro e w1 ⟨b1, rfl, hr1, hlt1, hb1⟩
  go_wp2_with fail
  refine (ball_any g' h' N q w1 (B'.out.below hb1)).mono ?_
  rintro e w2 ⟨b2, rfl, hr2, hlt2, hb2⟩
  go_wp2_with fail
  refine (csame_yes _ _ _ _ q w2 (all_lies (hr1.out.below hb2)) (all_lies hr2.out) HG.out.2.2.2.2.2 (by have := HG.out; omega)).mono ?_
  rintro e w3 ⟨rfl, hb3⟩
  go_wp2
  go_ret
  exact ⟨rfl, below_on (below_on hb1 hb2) hb3⟩

set_option maxRecDepth 100000 in
set_option maxHeartbeats 1000000 in
theorem equalFunc_yes (L L' : Lay) (N : Nat) (l l' : List Int) (qs : List (List (Int × Int))) (w : World) (r : BusAt w L N l qs) (r' : BusAt w L' N l' qs) :
    Calls Try.prog 46 #[.slice (some ⟨L.bb, 0, none⟩) qs.length qs.length, .slice (some ⟨L'.bb, 0, none⟩) qs.length qs.length, .func (.func 47) #[] #[]] w fun e w' => e = .returned (.bool true) ∧ Below w.heap.size w w' := by
  obtain ⟨C, hC⟩ : ∃ C, qs.length = C := ⟨_, rfl⟩
  have hm := r.most
  have R := Lib.hid r
  have R' := Lib.hid r'
  rw [hC] at hm ⊢
  have HC := Lib.hid hC
  have hne : ((C : Int) != (C : Int)) = false := by simp
  clear r r' hC
  go_enter Try.func46, Try.ntmps46
  go_wp2_with fail
  go_loopw [17] (fun c wr => ∃ k : Nat, k ≤ C ∧ c = .int .i64 k ∧ Hid (Below w.heap.size w wr)) (fun c _ => C - (intOf c).toNat)
  case atStart => exact ⟨0, Nat.zero_le _, rfl, Lib.hid (Below.refl _ _)⟩
  case round =>
    obtain ⟨k, hk, rfl, HB⟩ := hrel
    by_cases hlt : k < C
    · obtain ⟨q, hq⟩ : ∃ q, qs[k]? = some q := ⟨_, List.getElem?_eq_getElem (by rw [HC.out]; exact hlt)⟩
      have e1 : wr.cell? ⟨L.bb, k, none⟩ = some (.pointer (some ⟨L.gf k, 0, none⟩)) := by rw [(R.out.row.below HB.out).cell, ptrs_at _ (by rw [HC.out]; exact hlt)]; rfl
      have e2 : wr.cell? ⟨L'.bb, k, none⟩ = some (.pointer (some ⟨L'.gf k, 0, none⟩)) := by rw [(R'.out.row.below HB.out).cell, ptrs_at _ (by rw [HC.out]; exact hlt)]; rfl
      have al := alike_yes (L.gf k) (L.hf k) (L'.gf k) (L'.hf k) N q wr ((R.out.buf k q hq).below HB.out) ((R'.out.buf k q hq).below HB.out)
      unfold ptr at al
      have AL := Lib.hid al
      clear al hq
      go_wp2_with fail
      refine AL.out.mono ?_
      rintro e w1 ⟨rfl, hb1⟩
      have HB1 := Lib.hid (below_on HB.out hb1)
      clear hb1
      go_wp2_with fail
      go_roundw
      case rel => exact ⟨k + 1, by omega, by go_num, HB1⟩
      case measure => simp [intOf]; omega
    · obtain rfl : k = C := by omega
      go_wp2_with fail
      go_ret
      exact ⟨rfl, HB.out⟩

set_option maxRecDepth 100000 in
set_option maxHeartbeats 2000000 in
theorem same6_yes (L L' : Lay) (N : Nat) (l : List Int) (qs : List (List (Int × Int))) (w : World) (r : BusAt w L N l qs) (r' : BusAt w L' N l qs) :
    Calls Try.prog 18 #[ptr L.g, ptr L'.g] w fun e w' => e = .returned (.bool true) ∧ Below w.heap.size w w' := by
  have hb0 : Below w.heap.size w w := Below.refl _ _
  obtain ⟨C, hC⟩ : ∃ C, qs.length = C := ⟨_, rfl⟩
  have KK := Lib.hid (fun (W : World) (hb : Below w.heap.size w W) => (show W.cell? ⟨L.g, 0, none⟩ = some (.pointer (some ⟨L.rg, 0, none⟩)) ∧ W.cell? ⟨L.g, 1, none⟩ = some (.slice (some ⟨L.bb, 0, none⟩) C C) ∧ W.cell? ⟨L'.g, 0, none⟩ = some (.pointer (some ⟨L'.rg, 0, none⟩)) ∧ W.cell? ⟨L'.g, 1, none⟩ = some (.slice (some ⟨L'.bb, 0, none⟩) C C) ∧ Below w.heap.size w W from ⟨(r.top.below hb).cell 0, by rw [← hC]; exact (r.top.below hb).cell 1, (r'.top.below hb).cell 0, by rw [← hC]; exact (r'.top.below hb).cell 1, hb⟩))
  have EQ := Lib.hid (fun W (hb : Below w.heap.size w W) => (equalFunc_yes L L' N l l qs W (r.below hb) (r'.below hb)).mono (R' := fun e w' => e = .returned (.bool true) ∧ Below w.heap.size w w') (fun e w' ⟨he, hb'⟩ => ⟨he, below_on hb hb'⟩))
  have SR := Lib.hid (fun W (hb : Below w.heap.size w W) => (sameRam_any L.rg L.rh L'.rg L'.rh l l W (r.ram.below hb) (r'.ram.below hb)).mono (R' := fun e w' => e = .returned (.bool true) ∧ Below w.heap.size w w') (fun e w' ⟨he, hb'⟩ => ⟨by rw [he]; simp, below_on hb hb'⟩))
  rw [hC] at EQ
  have c0 : w.cell? ⟨L.g, 0, none⟩ = some (.pointer (some ⟨L.rg, 0, none⟩)) := r.top.cell 0
  have c1 : w.cell? ⟨L.g, 1, none⟩ = some (.slice (some ⟨L.bb, 0, none⟩) C C) := by rw [← hC]; exact r.top.cell 1
  have d0 : w.cell? ⟨L'.g, 0, none⟩ = some (.pointer (some ⟨L'.rg, 0, none⟩)) := r'.top.cell 0
  have d1 : w.cell? ⟨L'.g, 1, none⟩ = some (.slice (some ⟨L'.bb, 0, none⟩) C C) := by rw [← hC]; exact r'.top.cell 1
  clear r r' hC
  unfold ptr at SR ⊢
  go_enter Try.func18, Try.ntmps18
  go_wp2_with fail
  go_region_held3 (fun W => W.cell? ⟨L.g, 0, none⟩ = some (.pointer (some ⟨L.rg, 0, none⟩)) ∧ W.cell? ⟨L.g, 1, none⟩ = some (.slice (some ⟨L.bb, 0, none⟩) C C) ∧ W.cell? ⟨L'.g, 0, none⟩ = some (.pointer (some ⟨L'.rg, 0, none⟩)) ∧ W.cell? ⟨L'.g, 1, none⟩ = some (.slice (some ⟨L'.bb, 0, none⟩) C C) ∧ Below w.heap.size w W)
    (first | exact KK.out _ hb2 | exact KK.out _ hb1 | exact KK.out _ hb0.drew | exact KK.out _ hb0 | go_keep)
    (first
      | (go_at_call 46; refine (EQ.out _ ?_).mono ?_; (go_split_ands; assumption); rintro e w1 ⟨rfl, hb1⟩)
      | (go_at_call 48; refine (SR.out _ ?_).mono ?_; (go_split_ands; assumption); rintro e w2 ⟨rfl, hb2⟩))
  all_goals go_wp2
  all_goals go_ret
  all_goals exact ⟨rfl, hb2⟩

#print axioms same6_yes
end Go.Proofs.Ytoiaojpomhjlaaa
