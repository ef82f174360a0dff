/-
  Layer 9 (mbox): the calls (closures) of Pending, Waits, Ack, Reset.
  Conditions: those that each theorem states.
-/
import Derived.Test.YtfboikefjealfaaMb3
namespace Go.Proofs.Ytfboikefjealfaa
open Go.ChangeShapes Go.WideShapes Go.ChangeAt Go.RowKit

set_option maxRecDepth 100000 in
set_option maxHeartbeats 400000 in
theorem pendC (L : MLay) (ms : List Mail) (i : Nat) (m : Mail) (c : Nat) (x : Int) (w : World) (r : BoxAt w L ms) (hm : ms[i]? = some m) (hc : Row w c 3 [.int .i64 x]) :
    Calls Try.prog 28 #[.pointer (some ⟨L.mb, i * 2, none⟩), .pointer (some ⟨c, 0, none⟩)] w fun e w' => e = .returned (.int .i64 0) ∧ w' = w.setCell ⟨c, 0, none⟩ (.int .i64 (maskB m.1)) := by
  have h1 : w.cell? ⟨L.mb, i * 2, none⟩ = some (.int .i64 (maskB m.1)) := by rw [r.row.cell]; exact (mc_at hm).1
  have h2 : w.cell? ⟨c, 0, none⟩ = some (.int .i64 x) := hc.cell 0
  have h3 := hc.soft 0
  clear r hm hc
  go_enter Try.func28, Try.ntmps28
  go_wp2
  go_ret
  exact ⟨rfl, rfl⟩

set_option maxRecDepth 100000 in
set_option maxHeartbeats 400000 in
theorem waitsC (L : MLay) (ms : List Mail) (i : Nat) (m : Mail) (c : Nat) (x : Int) (w : World) (r : BoxAt w L ms) (hm : ms[i]? = some m) (hc : Row w c 3 [.int .i64 x]) :
    Calls Try.prog 29 #[.pointer (some ⟨L.mb, i * 2, none⟩), .pointer (some ⟨c, 0, none⟩)] w fun e w' => e = .returned (.int .i64 0) ∧ w' = w.setCell ⟨c, 0, none⟩ (.int .i64 m.2.length) := by
  have h1 : w.cell? ⟨L.mb, i * 2 + 1, none⟩ = some (ptr (L.gf i)) := by rw [r.row.cell]; exact (mc_at hm).2
  have h2 : w.cell? ⟨c, 0, none⟩ = some (.int .i64 x) := hc.cell 0
  have h3 := hc.soft 0
  have ln := len_any (L.gf i) (L.hf i) 16 (jns m.2) w (r.q i m hm)
  rw [jns_len] at ln
  have LN := Lib.hid ln
  clear r hm hc ln
  unfold ptr at h1 LN
  go_enter Try.func29, Try.ntmps29
  go_wp2_with (go_at_call 30; refine LN.out.mono ?_; rintro e w' ⟨rfl, rfl⟩)
  go_ret
  exact ⟨rfl, rfl⟩

theorem only_mono1 {L : MLay} {n : Nat} {w w' : World} (h : Only (fun b => b = L.mb) w w') : Only (L.fp n) w w' := h.mono (fun _ _ e => e ▸ L.fp_mb n)

set_option maxRecDepth 100000 in
set_option maxHeartbeats 400000 in
theorem ackC (L : MLay) (ms : List Mail) (i : Nat) (m : Mail) (c : Nat) (x : Int) (w : World) (r : BoxAt w L ms) (hm : ms[i]? = some m) (hc : Row w c 3 [.int .i64 x]) :
    Calls Try.prog 42 #[.pointer (some ⟨L.mb, i * 2, none⟩), .pointer (some ⟨c, 0, none⟩)] w (BoxP L (ms.set i (clrB m.1 x, m.2)) (.int .i64 0) w) := by
  have h1 : w.cell? ⟨L.mb, i * 2, none⟩ = some (.int .i64 (maskB m.1)) := by rw [r.row.cell]; exact (mc_at hm).1
  have h2 : w.cell? ⟨c, 0, none⟩ = some (.int .i64 x) := hc.cell 0
  have h3 := r.row.soft (i * 2)
  have hb := Lib.hid (bits_clr (r.ok i m hm).len x)
  have R := Lib.hid r
  have HM := Lib.hid hm
  clear r hm hc
  go_enter Try.func42, Try.ntmps42
  go_wp2
  go_region
  all_goals go_wp2
  all_goals go_ret
  all_goals rw [hb.out]
  all_goals exact ⟨rfl, (R.out.putB HM.out _ (by rw [clrB_len]; exact (R.out.ok i m HM.out).len)).below (Below.refl _ _).drew, by rw [List.length_set]; exact only_mono1 (((Only.refl (fun b => b = L.mb) w).setCell (p := ⟨L.mb, i * 2, none⟩) (.inl rfl) _).drew)⟩

set_option maxRecDepth 100000 in
set_option maxHeartbeats 1000000 in
theorem resetC (L : MLay) (ms : List Mail) (i : Nat) (m : Mail) (c : Nat) (x : Int) (w : World) (r : BoxAt w L ms) (hm : ms[i]? = some m) (hc : Row w c 3 [.int .i64 x]) (hn : ¬ L.fp ms.length c) :
    Calls Try.prog 43 #[.pointer (some ⟨L.mb, i * 2, none⟩), .pointer (some ⟨c, 0, none⟩)] w fun e w' => e = .returned (.int .i64 0) ∧ BoxAt w' L (ms.set i mail0) ∧ Row w' c 3 [.int .i64 m.2.length] ∧ Only (fun b => L.fp ms.length b ∨ b = c) w w' := by
  have hi := lt_of_at hm
  have h1 : w.cell? ⟨L.mb, i * 2, none⟩ = some (.int .i64 (maskB m.1)) := by rw [r.row.cell]; exact (mc_at hm).1
  have h1b : w.cell? ⟨L.mb, i * 2 + 1, none⟩ = some (.pointer (some ⟨L.gf i, 0, none⟩)) := by rw [r.row.cell]; exact (mc_at hm).2
  have h3 := r.row.soft (i * 2)
  have hb : maskB (List.replicate 8 false) = 0 := by decide
  have r1 := r.putB hm (List.replicate 8 false) (by simp)
  rw [hb] at r1
  have hne : L.mb ≠ c := fun e => hn (e ▸ L.fp_mb _)
  have c1 := hc.far (p := ⟨L.mb, i * 2, none⟩) (fun e => hne e.symm) (.int .i64 0)
  have cl := clear_any (L.gf i) (L.hf i) 16 (jns m.2) _ (r1.q i (List.replicate 8 false, m.2) (set_at hm))
  rw [jns_len] at cl
  unfold ptr at cl
  have CL := Lib.hid cl
  have R1 := Lib.hid r1
  have HM := Lib.hid hm
  have HN := Lib.hid hn
  have C1 := Lib.hid c1
  have hlt := hc.lt
  clear r hm hc hn r1 cl c1
  go_enter Try.func43, Try.ntmps43
  go_wp2_with (go_at_call 44; refine CL.out.mono ?_; rintro e w2 ⟨rfl, hq2, ho2⟩; have C2 := C1.out.only ho2 (fun h => HN.out (h.elim (fun e => e ▸ L.fp_gf hi) (fun e => e ▸ L.fp_hf hi))); have x1 := C2.cell 0; have x2 := C2.soft 0; simp only [List.getElem?_cons_zero] at x1; have HC2 := Lib.hid C2; have HQ2 := Lib.hid hq2; have HO2 := Lib.hid ho2; clear C2 hq2 ho2)
  go_ret
  have b2 := R1.out.putQ (set_at HM.out) (q' := []) HQ2.out HO2.out ⟨by simp, by simp, by simp⟩
  rw [set_set'] at b2
  have ho := HO2.out
  refine ⟨rfl, b2.only (only_put w2 c 0 _) (fun b hb e => HN.out (by rw [List.length_set] at hb; exact e ▸ hb)), HC2.out.put 0 _, ?_⟩
  exact (((Only.refl (fun b => L.fp ms.length b ∨ b = c) w).setCell (p := ⟨L.mb, i * 2, none⟩) (.inl (.inl (L.fp_mb _))) _).trans (ho.mono (fun b _ h => .inl (h.elim (fun e => e ▸ L.fp_gf hi) (fun e => e ▸ L.fp_hf hi))))).setCell (p := ⟨c, 0, none⟩) (.inl (.inr rfl)) _

#print axioms pendC
#print axioms waitsC
#print axioms ackC
#print axioms resetC
end Go.Proofs.Ytfboikefjealfaa
