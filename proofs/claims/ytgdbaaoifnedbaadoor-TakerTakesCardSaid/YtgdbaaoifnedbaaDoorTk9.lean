/-
  Layer 17 (taker): alive: the chapter's example.
  Conditions: those that each theorem states.
-/
import Derived.Test.YtgdbaaoifnedbaaDoorTk8
namespace Go.Proofs.YtgdbaaoifnedbaaDoor
open Go.ChangeShapes Go.WideShapes Go.ChangeAt Go.RowKit

theorem stT17 {U : Nat → Prop} {g t p : Nat} {E : List Int} (s : Run17) (w : World) (h : Sys17 w U g t p s.G s.V E s.K s.T) (ho : Ok17 s.G) (h0 : s.G.st ≠ 0) (hT : TabAt w) (hl : s.T.length ≤ 65536)  :
    Calls Tryd.prog 44 #[.pointer (some ⟨g, 0, none⟩), tface14 t] w fun e w' => e = .returned (ansV17 (ra17 E s)) ∧ Sys17 w' (fun x => U x ∨ w.heap.size ≤ x) g t p (rs17 E s).G (rs17 E s).V E (rs17 E s).K (rs17 E s).T ∧ Only U w w' :=
  stepT17 w h ho.acc (ho.fit h0) hT hl

set_option maxRecDepth 100000 in
set_option maxHeartbeats 4000000 in
theorem alive17 (w : World) (hT : TabAt w) :
    Calls Tryd.prog 39 #[] w fun e w' => e = .returned (.bool true) ∧ Below w.heap.size w w' := by
  have hmk : ∀ W : World, (Instr.makeSlice 33 (.int .i64 26) (.int .i64 26)).run Tryd.prog W = .ok (.slice (some ⟨W.heap.size, 0, none⟩) 26 26) (W.alloc (.cells (madeCells #[.int .i64 0] 26) 3)) := fun W => run_make_row' (P := Tryd.prog) 33 3 (.int .i64 0) 8 Tryd.underlying33 int_info rfl .i64 .i64 26 (by omega) (by omega) W
  have HT := Lib.hid hT
  have KM := Lib.hid (made17_yes ex17_ok w)
  unfold baseV17 at KM
  clear hT
  go_enter Tryd.func39, Tryd.ntmps39
  go_wp2_with fail
  refine KM.out.mono ?_
  rintro e w1 ⟨g, rfl, s1, b1⟩
  have K2 := Lib.hid (recvS17 w1 s1)
  have hse : recE17 (new17 0 2 0 0) = 0 := by decide
  rw [hse] at K2
  have B1 := Lib.hid b1
  clear s1 b1 hse KM
  unfold ptr
  go_wp2_with fail
  refine K2.out.mono ?_
  rintro e w2 ⟨rfl, s2, o2⟩
  have S2 := Lib.hid (s2.weak (U' := fun x => w.heap.size ≤ x) (fun x _ h => by have := B1.out.size; omega))
  have B2 := Lib.hid (Only.below B1.out o2 B1.out.size (fun x hx h => by omega))
  clear s2 o2 K2 B1
  go_wp2_with fail
  have hz := Row.new w2 3 (madeCells #[Value.int .i64 0] 26)
  rw [ints_zeros] at hz
  have hz2 := hz.below (below_al (w2.alloc (.cells (madeCells #[Value.int .i64 0] 26) 3)) (.cells #[.int .i64 0, .int .i64 0] 3))
  have he2 := Row.new (w2.alloc (.cells (madeCells #[Value.int .i64 0] 26) 3)) 3 #[.int .i64 0, .int .i64 0]
  rw [size_al] at he2
  have hb3 := below_on (below_al w2 (.cells (madeCells #[Value.int .i64 0] 26) 3)) (below_al (w2.alloc (.cells (madeCells #[Value.int .i64 0] 26) 3)) (.cells #[.int .i64 0, .int .i64 0] 3))
  refine (ofWords14_any (fun _ => True) (fun _ => True) (List.replicate 26 0) [0, 0] _ _ _ (Lies.of_row hz2 trivial 26) (Lies.of_row he2 trivial 2) (by simp) (by simp)).mono ?_
  rintro e w4 ⟨p, a, b, rfl, rp, ha, hp, hb4⟩
  have e1 : mod14 (List.replicate 26 0) = List.replicate 26 0 := by decide
  have e2 : mod14 [0, 0] = [0, 0] := by decide
  rw [e1, e2] at rp
  have B4 := Lib.hid (below_on hb3 hb4)
  have RP := Lib.hid rp
  have hab : w2.heap.size ≤ a ∧ w2.heap.size ≤ p := by have := hb3.size; omega
  have HAB := Lib.hid hab
  clear hz hz2 he2 hb3 hb4 rp ha hp hab e1 e2 hmk
  unfold ptr
  go_wp2_with fail
  refine (traced14_any p w4).mono ?_
  rintro e w5 ⟨t, rfl, rt, ht, hb5⟩
  have hab := RP.out.ne
  have hsys := sys17_of S2.out (below_on B4.out hb5) (PtAt.mk (RP.out.below hb5) rt) (fun x hx => by
    have := B4.out.size
    have := HAB.out
    rcases hx with hx | rfl
    · rcases hx with rfl | rfl | rfl | hx | hx
      · omega
      · omega
      · omega
      · cases hx
      · cases hx
    · omega)
  have B5 := Lib.hid (below_on (below_on B2.out B4.out) hb5)
  have S5 : Hid (Sys17 w5 (fun x => w.heap.size ≤ x) g t p (it17 [0, 0] ex17 0).G (it17 [0, 0] ex17 0).V [0, 0] (it17 [0, 0] ex17 0).K (it17 [0, 0] ex17 0).T) := Lib.hid (hsys.weak (fun x _ h => by have := B2.out.size; omega))
  clear hsys rt ht hb5 B4 RP HAB S2 B2 hab
  unfold ptr
  go_wp2
  go_loopw [3] (fun iv wr => ∃ k : Nat, k ≤ 3 ∧ iv = .int .i64 ((k : Int) + 1) ∧ Hid (Sys17 wr (fun x => w.heap.size ≤ x) g t p (it17 [0, 0] ex17 k).G (it17 [0, 0] ex17 k).V [0, 0] (it17 [0, 0] ex17 k).K (it17 [0, 0] ex17 k).T) ∧ Hid (Below w.heap.size w wr)) (fun iv _ => 5 - (intOf iv).toNat)
  case atStart => exact ⟨0, Nat.zero_le _, rfl, S5, B5⟩
  case round =>
    clear S5 B5
    obtain ⟨k, hk, rfl, SR, BR⟩ := hrel
    have hst := ex17_steps k (by omega)
    have KS := Lib.hid (stT17 (it17 [0, 0] ex17 k) wr SR.out (it17_ok (ok17_rec (ok17_new ex17_ok)) k) hst.1 (HT.out.below BR.out) (by omega))
    unfold tface14 at KS
    clear hst
    by_cases hlt : k < 3
    · rw [ex17_none k hlt] at KS
      unfold ansV17 at KS
      have h9 : (k : Int) + 1 ≤ 3 := by omega
      go_wp2_with fail
      refine KS.out.mono ?_
      rintro e w6 ⟨rfl, s6, o6⟩
      have S6 : Hid (Sys17 w6 (fun x => w.heap.size ≤ x) g t p (it17 [0, 0] ex17 (k + 1)).G (it17 [0, 0] ex17 (k + 1)).V [0, 0] (it17 [0, 0] ex17 (k + 1)).K (it17 [0, 0] ex17 (k + 1)).T) := Lib.hid (Sys17.weak s6 (fun x _ h => by have := BR.out.size; omega))
      have B6 := Lib.hid (Only.below BR.out o6 BR.out.size (fun x hx h => by omega))
      clear s6 o6 KS SR BR
      go_wp2
      go_roundw
      case rel => exact ⟨k + 1, by omega, by go_num, S6, B6⟩
      case measure => simp [intOf]; omega
    · obtain rfl : k = 3 := by omega
      rw [ex17_some] at KS
      unfold ansV17 at KS
      go_wp2_with fail
      refine KS.out.mono ?_
      rintro e w6 ⟨rfl, s6, o6⟩
      have S6 : Hid (Sys17 w6 (fun x => w.heap.size ≤ x) g t p (it17 [0, 0] ex17 4).G (it17 [0, 0] ex17 4).V [0, 0] (it17 [0, 0] ex17 4).K (it17 [0, 0] ex17 4).T) := Lib.hid (Sys17.weak s6 (fun x _ h => by have := BR.out.size; omega))
      have B6 := Lib.hid (Only.below BR.out o6 BR.out.size (fun x hx h => by omega))
      clear s6 o6 KS SR BR
      obtain ⟨t4, z4, l4⟩ := ex17_end
      obtain ⟨s4, hs4⟩ : ∃ s, it17 [0, 0] ex17 4 = s := ⟨_, rfl⟩
      rw [hs4] at S6 t4 z4 l4
      obtain ⟨s, vl, vg, a, b, k, v, rg, rp, -, -, -⟩ := S6.out
      have KT := Lib.hid (touches14_any w6 rp.trace (by omega))
      have RG := Lib.hid rg
      have T4 := Lib.hid t4
      have Z4 := Lib.hid z4
      have L4 := Lib.hid l4
      clear rp rg t4 z4 l4 hs4 S6
      go_wp2_with fail
      refine KT.out.mono ?_
      rintro e w7 ⟨v7, rfl, own7, b7⟩
      rw [T4.out] at own7
      obtain ⟨A7, c7, rfl⟩ := own_open14 own7
      have KO := Lib.hid (busy17_any w7 (RG.out.below b7))
      have KL := Lib.hid (linked17_any w7 (RG.out.below b7))
      rw [Z4.out] at KO
      rw [L4.out] at KL
      have B7 := Lib.hid (below_on (show Below w.heap.size w w7 from B6.out.trans (b7.mono B6.out.size)) (Below.refl _ _))
      clear own7 b7 KT
      go_wp2_with fail
      refine KO.out.mono ?_
      rintro e w8 ⟨rfl, rfl⟩
      go_wp2_with fail
      refine KL.out.mono ?_
      rintro e w8 ⟨rfl, rfl⟩
      go_wp2
      go_ret
      exact ⟨rfl, B7.out⟩

#print axioms alive17
end Go.Proofs.YtgdbaaoifnedbaaDoor
