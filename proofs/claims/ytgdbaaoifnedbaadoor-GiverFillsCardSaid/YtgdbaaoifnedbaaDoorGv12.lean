/-
  Layer 16 (giver): alive: the chapter's example.
  Conditions: those that each theorem states.
-/
import Derived.Test.YtgdbaaoifnedbaaDoorGv11
namespace Go.Proofs.YtgdbaaoifnedbaaDoor
open Go.ChangeShapes Go.WideShapes Go.ChangeAt Go.RowKit

theorem stT16 {U : Nat → Prop} {g t p : Nat} {E : List Int} (s : Run16) (w : World) (h : Sys16 w U g t p s.G s.V E s.K s.T) (ho : Ok16 s.G) (h0 : s.G.st ≠ 0) (hT : TabAt w) (hl : s.T.length ≤ 65536) (hkl : s.K.length ≤ 65536) :
    Calls Tryd.prog 23 #[.pointer (some ⟨g, 0, none⟩), tface14 t] w fun e w' => e = .returned (ansV16 (ra16 E s)) ∧ Sys16 w' (fun x => U x ∨ w.heap.size ≤ x) g t p (rs16 E s).G (rs16 E s).V E (rs16 E s).K (rs16 E s).T ∧ Only U w w' :=
  stepT16 w h ho.acc (ho.fit h0) hT hl hkl

set_option maxRecDepth 100000 in
set_option maxHeartbeats 4000000 in
theorem alive16 (w : World) (hT : TabAt w) :
    Calls Tryd.prog 10 #[] w fun e w' => e = .returned (.bool true) ∧ Below w.heap.size w w' := by
  have hmk : ∀ W : World, (Instr.makeSlice 33 (.int .i64 26) (.int .i64 26)).run Tryd.prog W = .ok (.slice (some ⟨W.heap.size, 0, none⟩) 26 26) (W.alloc (.cells (madeCells #[.int .i64 0] 26) 3)) := fun W => run_make_row' (P := Tryd.prog) 33 3 (.int .i64 0) 8 Tryd.underlying33 int_info rfl .i64 .i64 26 (by omega) (by omega) W
  have HT := Lib.hid hT
  have KM := Lib.hid (made16_yes ex16_ok w)
  unfold baseV at KM
  clear hT
  go_enter Tryd.func10, Tryd.ntmps10
  go_wp2_with fail
  refine KM.out.mono ?_
  rintro e w1 ⟨g, rfl, s1, b1⟩
  have K2 := Lib.hid (sendS16 (fun _ => True) [] (.slice none 0 0) w1 s1 (Lies.nil_ _ _) (by trivial))
  have hse : sendE16 (new16 0 2 1 0) [] = 0 := by decide
  rw [hse] at K2
  have B1 := Lib.hid b1
  clear s1 b1 hse KM
  unfold ptr
  go_wp2_with fail
  refine K2.out.mono ?_
  rintro e w2 ⟨rfl, s2, o2⟩
  have S2 := Lib.hid (s2.weak (U' := fun x => w.heap.size ≤ x) (fun x _ h => by have := B1.out.size; omega))
  have B2 := Lib.hid (Only.below B1.out o2 B1.out.size (fun x hx h => by omega))
  clear s2 o2 K2 B1
  go_wp2_with fail
  have hz := Row.new w2 3 (madeCells #[Value.int .i64 0] 26)
  rw [ints_zeros] at hz
  have hz2 := hz.below (below_al (w2.alloc (.cells (madeCells #[Value.int .i64 0] 26) 3)) (.cells #[.int .i64 0, .int .i64 0] 3))
  have he2 := Row.new (w2.alloc (.cells (madeCells #[Value.int .i64 0] 26) 3)) 3 #[.int .i64 0, .int .i64 0]
  rw [size_al] at he2
  have hb3 := below_on (below_al w2 (.cells (madeCells #[Value.int .i64 0] 26) 3)) (below_al (w2.alloc (.cells (madeCells #[Value.int .i64 0] 26) 3)) (.cells #[.int .i64 0, .int .i64 0] 3))
  refine (ofWords14_any (fun _ => True) (fun _ => True) (List.replicate 26 0) [0, 0] _ _ _ (Lies.of_row hz2 trivial 26) (Lies.of_row he2 trivial 2) (by simp) (by simp)).mono ?_
  rintro e w4 ⟨p, a, b, rfl, rp, ha, hp, hb4⟩
  have e1 : mod14 (List.replicate 26 0) = List.replicate 26 0 := by decide
  have e2 : mod14 [0, 0] = [0, 0] := by decide
  rw [e1, e2] at rp
  have B4 := Lib.hid (below_on hb3 hb4)
  have RP := Lib.hid rp
  have hab : w2.heap.size ≤ a ∧ w2.heap.size ≤ p := by have := hb3.size; omega
  have HAB := Lib.hid hab
  clear hz hz2 he2 hb3 hb4 rp ha hp hab e1 e2 hmk
  unfold ptr
  go_wp2_with fail
  refine (traced14_any p w4).mono ?_
  rintro e w5 ⟨t, rfl, rt, ht, hb5⟩
  have hab := RP.out.ne
  have hsys := sys16_of S2.out (below_on B4.out hb5) (PtAt.mk (RP.out.below hb5) rt) (fun x hx => by
    have := B4.out.size
    have := HAB.out
    rcases hx with hx | rfl
    · rcases hx with rfl | rfl | rfl | hx | hx
      · omega
      · omega
      · omega
      · cases hx
      · cases hx
    · omega)
  have B5 := Lib.hid (below_on (below_on B2.out B4.out) hb5)
  have S5 : Hid (Sys16 w5 (fun x => w.heap.size ≤ x) g t p (it16 [0, 0] ex16 0).G (it16 [0, 0] ex16 0).V [0, 0] (it16 [0, 0] ex16 0).K (it16 [0, 0] ex16 0).T) := Lib.hid (hsys.weak (fun x _ h => by have := B2.out.size; omega))
  clear hsys rt ht hb5 B4 RP HAB S2 B2 hab
  unfold ptr
  go_wp2
  go_loopw [3] (fun iv wr => ∃ k : Nat, k ≤ 9 ∧ iv = .int .i64 ((k : Int) + 1) ∧ Hid (Sys16 wr (fun x => w.heap.size ≤ x) g t p (it16 [0, 0] ex16 k).G (it16 [0, 0] ex16 k).V [0, 0] (it16 [0, 0] ex16 k).K (it16 [0, 0] ex16 k).T) ∧ Hid (Below w.heap.size w wr)) (fun iv _ => 11 - (intOf iv).toNat)
  case atStart => exact ⟨0, Nat.zero_le _, rfl, S5, B5⟩
  case round =>
    clear S5 B5
    obtain ⟨k, hk, rfl, SR, BR⟩ := hrel
    have hst := ex16_steps k (by omega)
    have KS := Lib.hid (stT16 (it16 [0, 0] ex16 k) wr SR.out (it16_ok (ok16_send (ok16_new ex16_ok) []) k) hst.1 (HT.out.below BR.out) (by omega) (by omega))
    unfold tface14 at KS
    clear hst
    by_cases hlt : k < 9
    · rw [ex16_none k hlt] at KS
      unfold ansV16 at KS
      have h9 : (k : Int) + 1 ≤ 9 := by omega
      go_wp2_with fail
      refine KS.out.mono ?_
      rintro e w6 ⟨rfl, s6, o6⟩
      have S6 : Hid (Sys16 w6 (fun x => w.heap.size ≤ x) g t p (it16 [0, 0] ex16 (k + 1)).G (it16 [0, 0] ex16 (k + 1)).V [0, 0] (it16 [0, 0] ex16 (k + 1)).K (it16 [0, 0] ex16 (k + 1)).T) := Lib.hid (Sys16.weak s6 (fun x _ h => by have := BR.out.size; omega))
      have B6 := Lib.hid (Only.below BR.out o6 BR.out.size (fun x hx h => by omega))
      clear s6 o6 KS SR BR
      go_wp2
      go_roundw
      case rel => exact ⟨k + 1, by omega, by go_num, S6, B6⟩
      case measure => simp [intOf]; omega
    · obtain rfl : k = 9 := by omega
      rw [ex16_some] at KS
      unfold ansV16 at KS
      go_wp2_with fail
      refine KS.out.mono ?_
      rintro e w6 ⟨rfl, s6, o6⟩
      have S6 : Hid (Sys16 w6 (fun x => w.heap.size ≤ x) g t p (it16 [0, 0] ex16 10).G (it16 [0, 0] ex16 10).V [0, 0] (it16 [0, 0] ex16 10).K (it16 [0, 0] ex16 10).T) := Lib.hid (Sys16.weak s6 (fun x _ h => by have := BR.out.size; omega))
      have B6 := Lib.hid (Only.below BR.out o6 BR.out.size (fun x hx h => by omega))
      clear s6 o6 KS SR BR
      obtain ⟨t10, o10, -⟩ := ex16_end
      obtain ⟨s10, hs10⟩ : ∃ s, it16 [0, 0] ex16 10 = s := ⟨_, rfl⟩
      rw [hs10] at S6 t10 o10
      obtain ⟨vf, vo, vl, a, b, k, v, rg, rp, -, -, -⟩ := S6.out
      have KT := Lib.hid (touches14_any w6 rp.trace (by omega))
      have RG := Lib.hid rg
      have T10 := Lib.hid t10
      have O10 := Lib.hid o10
      clear rp rg t10 o10 hs10 S6
      go_wp2_with fail
      refine KT.out.mono ?_
      rintro e w7 ⟨v7, rfl, own7, b7⟩
      rw [T10.out] at own7
      obtain ⟨A7, c7, rfl⟩ := own_open14 own7
      have KO := Lib.hid (out16_any w7 (RG.out.below b7) (by rw [O10.out]; decide))
      have B7 := Lib.hid (below_on (show Below w.heap.size w w7 from B6.out.trans (b7.mono B6.out.size)) (Below.refl _ _))
      clear own7 b7 KT
      go_wp2_with fail
      refine KO.out.mono ?_
      rintro e w8 ⟨v8, rfl, own8, b8⟩
      rw [O10.out] at own8
      have L8 := Lib.hid (Lies.of_own own8)
      obtain ⟨A8, c8, rfl⟩ := own_open14 own8
      have B8 := Lib.hid (below_on B7.out b8)
      clear own8 b8 KO
      go_wp2_with fail
      refine (rsame_yes _ (fun _ => True) _ _ [0] _ (L8.out.below (below_al _ _)) (Lies.of_row (Row.new w8 3 #[.int .i64 0]) trivial 1) (by decide)).mono ?_
      rintro e w9 ⟨rfl, b9⟩
      have B9 := Lib.hid (below_on (below_on B8.out (below_al w8 (.cells #[.int .i64 0] 3))) b9)
      clear b9
      go_wp2
      go_ret
      exact ⟨rfl, B9.out⟩

#print axioms alive16
end Go.Proofs.YtgdbaaoifnedbaaDoor
