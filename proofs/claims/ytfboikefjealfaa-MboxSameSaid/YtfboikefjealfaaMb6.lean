/-
  Layer 9 (mbox): the call (closure) of Ring.
  Conditions: those that each theorem states.
-/
import Derived.Test.YtfboikefjealfaaMb5
namespace Go.Proofs.Ytfboikefjealfaa
open Go.ChangeShapes Go.WideShapes Go.ChangeAt Go.RowKit

theorem word_q (x : Int) (w : World) (m : Nat) : Calls Try.prog 36 #[.int .i64 x] (w.drewN m) fun e w' => e = .returned (.int .i64 (x % 65536)) ∧ ∃ k, w' = w.drewN k :=
  (word_any x _).mono fun _ _ ⟨he, hw⟩ => ⟨he, m, hw.symm⟩

set_option maxRecDepth 100000 in
set_option maxHeartbeats 1000000 in
theorem ringC_from (L : MLay) (ms : List Mail) (i : Nat) (f : Int) (cb cf cx : Nat) (w : World) (r : BoxAt w L ms) (d1 : w.cell? ⟨cb, 0, none⟩ = some (.pointer (some ⟨L.g, 0, none⟩))) (d2 : w.cell? ⟨cf, 0, none⟩ = some (.int .i64 f)) (hf : cIs ms.length f = false) :
    Calls Try.prog 34 #[.pointer (some ⟨L.mb, i * 2, none⟩), .pointer (some ⟨cb, 0, none⟩), .pointer (some ⟨cf, 0, none⟩), .pointer (some ⟨cx, 0, none⟩)] w (BoxP L ms (.int .i64 3) w) := by
  have hs := has9_any L ms f w r
  rw [hf] at hs
  have HS := Lib.hid hs
  have R := Lib.hid r
  clear r hs hf
  go_enter Try.func34, Try.ntmps34
  go_wp2_with (go_at_call 35; refine HS.out.mono ?_; rintro e w' ⟨rfl, rfl⟩)
  go_ret
  exact ⟨rfl, R.out, Only.refl _ _⟩

set_option maxRecDepth 100000 in
set_option maxHeartbeats 1000000 in
theorem ringC_word (L : MLay) (ms : List Mail) (i : Nat) (f x : Int) (cb cf cx : Nat) (w : World) (r : BoxAt w L ms) (d1 : w.cell? ⟨cb, 0, none⟩ = some (.pointer (some ⟨L.g, 0, none⟩))) (d2 : w.cell? ⟨cf, 0, none⟩ = some (.int .i64 f)) (d3 : w.cell? ⟨cx, 0, none⟩ = some (.int .i64 x)) (hf : cIs ms.length f = true) (hx : x < 0 ∨ 65535 < x) :
    Calls Try.prog 34 #[.pointer (some ⟨L.mb, i * 2, none⟩), .pointer (some ⟨cb, 0, none⟩), .pointer (some ⟨cf, 0, none⟩), .pointer (some ⟨cx, 0, none⟩)] w (BoxP L ms (.int .i64 2) w) := by
  have hs := has9_any L ms f w r
  rw [hf] at hs
  have HS := Lib.hid hs
  have R := Lib.hid r
  have wd := Lib.hid (word_q x w)
  have hne : (x % 65536 != x) = true := by simp; omega
  clear r hs hf hx
  go_enter Try.func34, Try.ntmps34
  go_wp2_with (go_at_call 35; refine HS.out.mono ?_; rintro e w' ⟨rfl, rfl⟩)
  go_quiet ((go_at_call 36; exact wd.out _))
  go_wp2
  go_ret
  exact ⟨rfl, R.out.below (below_q w _), Only.of_below (below_q w _) _⟩

/-- A mailbox behind a Ring, and its error. -/
def rgQ (q : List (Int × Int)) (p : Int × Int) : List (Int × Int) := if q.length = 16 then q else q ++ [p]
def rgE (q : List (Int × Int)) : Int := if q.length = 16 then 5 else 0
theorem putQ_jns (q : List (Int × Int)) (p : Int × Int) : putQ 16 (jns q) (jn p) = jns (rgQ q p) := by
  unfold putQ rgQ
  rw [jns_len]
  split
  · rfl
  · simp [jns]
theorem putE_jns (q : List (Int × Int)) : putE 16 (jns q) = rgE q := by
  unfold putE rgE
  rw [jns_len]

theorem MailOk.ring {m : Mail} (h : MailOk m) {p : Int × Int} (hp : 0 ≤ p.1 ∧ p.1 < 8 ∧ 0 ≤ p.2 ∧ p.2 ≤ 65535) (i : Nat) : MailOk (m.1.set i true, rgQ m.2 p) := by
  refine ⟨by simp [h.len], ?_, ?_⟩
  · have := h.fit
    simp only [rgQ]
    split
    · exact this
    · simp; omega
  · intro x hx
    simp only [rgQ] at hx
    split at hx
    · exact h.low x hx
    · rcases List.mem_append.1 hx with hx | hx
      · exact h.low x hx
      · simp at hx; subst hx; exact hp

set_option maxRecDepth 100000 in
set_option maxHeartbeats 2000000 in
theorem ringC_ok (L : MLay) (ms : List Mail) (i : Nat) (m : Mail) (f : Nat) (x : Int) (cb cf cx : Nat) (w : World) (r : BoxAt w L ms) (hm : ms[i]? = some m) (d1 : w.cell? ⟨cb, 0, none⟩ = some (.pointer (some ⟨L.g, 0, none⟩))) (c2 : Row w cf 3 [.int .i64 (f : Int)]) (c3 : Row w cx 3 [.int .i64 x]) (hn2 : ¬ L.fp ms.length cf) (hn3 : ¬ L.fp ms.length cx) (hf : f < ms.length) (hx : 0 ≤ x ∧ x ≤ 65535) :
    Calls Try.prog 34 #[.pointer (some ⟨L.mb, i * 2, none⟩), .pointer (some ⟨cb, 0, none⟩), .pointer (some ⟨cf, 0, none⟩), .pointer (some ⟨cx, 0, none⟩)] w (BoxP L (ms.set i (m.1.set f true, rgQ m.2 ((f : Int), x))) (.int .i64 (rgE m.2)) w) := by
  have hi := lt_of_at hm
  have h8 : f < 8 := by have := r.most; omega
  have hs := has9_any L ms f w r
  rw [cIs_nat hf] at hs
  have HS := Lib.hid hs
  have wd := Lib.hid (word_q x w)
  have d2 := c2.cell 0
  have d3 := c3.cell 0
  simp only [List.getElem?_cons_zero] at d2 d3
  have hmod : x % 65536 = x := by omega
  have hne : (x % 65536 != x) = false := by simp; omega
  have h1 : w.cell? ⟨L.mb, i * 2, none⟩ = some (.int .i64 (maskB m.1)) := by rw [r.row.cell]; exact (mc_at hm).1
  have h1b : w.cell? ⟨L.mb, i * 2 + 1, none⟩ = some (.pointer (some ⟨L.gf i, 0, none⟩)) := by rw [r.row.cell]; exact (mc_at hm).2
  have h3 := r.row.soft (i * 2)
  have hp : 0 ≤ ((f : Int), x).1 ∧ ((f : Int), x).1 < 8 ∧ 0 ≤ ((f : Int), x).2 ∧ ((f : Int), x).2 ≤ 65535 := by simp only; omega
  have hb := Lib.hid (bits_or_set (r.ok i m hm).len h8)
  have hw2 : IntKind.i64.wrap ((2 : Int) ^ f) = 2 ^ f := by
    have : f = 0 ∨ f = 1 ∨ f = 2 ∨ f = 3 ∨ f = 4 ∨ f = 5 ∨ f = 6 ∨ f = 7 := by omega
    rcases this with rfl | rfl | rfl | rfl | rfl | rfl | rfl | rfl <;> decide
  have hok := r.ok i m hm
  have r1 := fun k => (r.below (below_q w k)).putB hm (m.1.set f true) (by rw [List.length_set]; exact hok.len)
  have jo := fun W => Lib.hid (join_any ((f : Int), x) W hp)
  have pt := fun k W (hb : Below ((w.drewN k).setCell ⟨L.mb, i * 2, none⟩ (.int .i64 (maskB (m.1.set f true)))).heap.size ((w.drewN k).setCell ⟨L.mb, i * 2, none⟩ (.int .i64 (maskB (m.1.set f true)))) W) => Lib.hid (put_any (L.gf i) (L.hf i) 16 (jns m.2) (jn ((f : Int), x)) W (((r1 k).below hb).q i (m.1.set f true, m.2) (set_at hm)))
  simp only [putQ_jns, putE_jns] at pt
  have R1 := Lib.hid r1
  have HM := Lib.hid hm
  have HOK := Lib.hid (hok.ring hp f)
  have n2 : L.mb ≠ cf := fun e => hn2 (e ▸ L.fp_mb _)
  have n3 : L.mb ≠ cx := fun e => hn3 (e ▸ L.fp_mb _)
  have n2' : cf ≠ L.mb := Ne.symm n2
  have n3' : cx ≠ L.mb := Ne.symm n3
  obtain ⟨y, hy⟩ : ∃ y, jn ((f : Int), x) = y := ⟨_, rfl⟩
  rw [hy] at jo pt
  obtain ⟨z, hz⟩ : ∃ z, rgE m.2 = z := ⟨_, rfl⟩
  rw [hz] at pt ⊢
  unfold ptr at pt
  simp only at jo
  clear r hs hm c2 c3 hn2 hn3 hf hx hp hok r1 hy hz
  go_enter Try.func34, Try.ntmps34
  go_wp2_with (go_at_call 35; refine HS.out.mono ?_; rintro e w' ⟨rfl, rfl⟩)
  go_quiet ((go_at_call 36; exact wd.out _))
  go_wp2
  go_region
  rw [hb.out]
  have B1 := R1.out (nq + 1)
  have P1 := pt (nq + 1)
  have O1 : Only (fun b => b = L.mb) w ((w.drewN (nq + 1)).setCell ⟨L.mb, i * 2, none⟩ (.int .i64 (maskB (m.1.set f true)))) := ((Only.refl (fun b => b = L.mb) w).drewN (nq + 1)).setCell (p := ⟨L.mb, i * 2, none⟩) (.inl rfl) _
  have q1 : ((w.drewN (nq + 1)).setCell ⟨L.mb, i * 2, none⟩ (.int .i64 (maskB (m.1.set f true)))).cell? ⟨L.mb, i * 2 + 1, none⟩ = some (.pointer (some ⟨L.gf i, 0, none⟩)) := by rw [B1.row.cell]; exact (mc_at (set_at HM.out)).2
  have q2 : ((w.drewN (nq + 1)).setCell ⟨L.mb, i * 2, none⟩ (.int .i64 (maskB (m.1.set f true)))).cell? ⟨cf, 0, none⟩ = some (.int .i64 f) := (cell_far n2' _).trans (by simpa using d2)
  have q3 : ((w.drewN (nq + 1)).setCell ⟨L.mb, i * 2, none⟩ (.int .i64 (maskB (m.1.set f true)))).cell? ⟨cx, 0, none⟩ = some (.int .i64 x) := (cell_far n3' _).trans (by simpa using d3)
  obtain ⟨W1, hW1⟩ : ∃ W1, W1 = (w.drewN (nq + 1)).setCell ⟨L.mb, i * 2, none⟩ (.int .i64 (maskB (m.1.set f true))) := ⟨_, rfl⟩
  rw [← hW1] at B1 P1 q1 q2 q3 O1 ⊢
  have P2 := fun k => P1 (W1.drewN k) (below_q W1 k)
  have HB1 := Lib.hid B1
  have HO1 := Lib.hid O1
  clear pt R1 B1 P1 hW1 d1 d2 d3 h1 h1b h3 HS wd O1
  go_wp2
  go_region_with (first
    | (go_at_call 38; refine (jo _).out.mono ?_; rintro e w' ⟨rfl, rfl⟩)
    | (go_at_call 37; refine (P2 _).out.mono ?_; rintro e w3 ⟨rfl, hq3, ho3⟩; have HQ3 := Lib.hid hq3; have HO3 := Lib.hid ho3; clear hq3 ho3))
  all_goals go_wp2
  all_goals go_ret
  all_goals
    have b3 := (HB1.out.below (below_q W1 _)).putQ (set_at HM.out) HQ3.out HO3.out HOK.out
    rw [set_set'] at b3
    refine ⟨rfl, b3, ?_⟩
    rw [List.length_set]
    exact ((only_mono1 HO1.out).drewN _).trans (HO3.out.mono (fun b _ h => h.elim (fun e => e ▸ L.fp_gf hi) (fun e => e ▸ L.fp_hf hi)))

#print axioms ringC_from
end Go.Proofs.Ytfboikefjealfaa
