/-
  Layer 16 (giver): every access is one that a giver may make; the memory of the law's loop.
  Conditions: those that each theorem states.
-/
import Derived.Test.YtbahnnlenaoomaaDoorGv15
namespace Go.Proofs.YtbahnnlenaoomaaDoor
open Go.ChangeShapes Go.WideShapes Go.ChangeAt Go.RowKit

set_option maxRecDepth 100000 in
set_option maxHeartbeats 1000000 in
theorem may16_any (B self peer own : Int) (R : Nat) (x : Tch) (w : World) (hR : okRing (R : Int)) (hB : 0 ≤ B ∧ B ≤ 65535) (h : MayT B R peer x) :
    Calls Tryd.prog 30 #[baseV B (R : Int) self peer own, .agg #[.int .i64 x.1, .int .i64 x.2.1, .int .i64 x.2.2]] w fun e w' => e = .returned (.bool true) ∧ Below w.heap.size w w' := by
  obtain ⟨κ, i, u⟩ := x
  have BB := Lib.hid (below_on (below_al w (.cells #[.int .i64 B, .int .i64 (R : Int), .int .i64 self, .int .i64 peer, .int .i64 own] 25)) (below_al _ (.cells #[.int .i64 κ, .int .i64 i, .int .i64 u] 64)))
  rcases h with h | ⟨h, h'⟩ | ⟨f, s, j, hf1, hf8, hw, hx, hk⟩
  · obtain rfl : κ = 3 := h
    unfold baseV
    clear hR hB
    go_enter Tryd.func30, Tryd.ntmps30
    go_wp2
    go_ret
    exact ⟨rfl, BB.out⟩
  · obtain rfl : i = peer := h'
    have k3 : (κ == 3) = false := by
      have h : κ = 4 ∨ κ = 5 := h
      simp; omega
    unfold baseV
    clear hR hB
    rcases h with h | h
    · obtain rfl : κ = 4 := h
      go_enter Tryd.func30, Tryd.ntmps30
      go_wp2
      go_ret
      exact ⟨by simp, BB.out⟩
    · obtain rfl : κ = 5 := h
      go_enter Tryd.func30, Tryd.ntmps30
      go_wp2
      go_ret
      exact ⟨by simp, BB.out⟩
  · obtain rfl : i = B + offP (R : Int) f s j := hx
    exact may16_word B self peer own R f s j κ u w hR hB ⟨hf1, hf8⟩ hw hk

theorem tk16_mem {G : Gv} (h : Ok16 G) (ho : G.out ≠ []) : 0 ≤ tk16 G ∧ tk16 G < (G.R : Int) := by
  have hm : tk16 G ∈ G.out := by
    unfold tk16
    rw [List.getLastD_eq_getLast?, List.getLast?_eq_some_getLast ho]
    exact List.getLast_mem ho
  exact upto16_mem.1 (h.perm.mem_iff.1 (List.mem_append_right _ hm))

theorem mayW {G : Gv} (f : Nat) (s : Int) (j : Nat) (κ u : Int) (hf : 1 ≤ f ∧ f ≤ 8) (hw : okWord (G.R : Int) f s j) (hk : (f = 2 ∨ f = 4 ∨ f = 6) ∧ κ = 1 ∨ ¬ (f = 2 ∨ f = 4 ∨ f = 6) ∧ κ = 2) : MayT G.B G.R G.peer (κ, ad16 G f s j, u) := by
  have hs : 0 ≤ s := by unfold okWord at hw; omega
  obtain ⟨n, rfl⟩ := Int.eq_ofNat_of_zero_le hs
  refine .inr (.inr ⟨f, n, j, hf.1, hf.2, hw, ?_, hk⟩)
  show ad16 G f n j = _
  unfold ad16 atV13
  rw [if_pos hw]

/-- What is recorded of an access is one touch, which a giver may make. -/
theorem mayT16 {G : Gv} (h : Ok16 G) (h0 : G.st ≠ 0) (V E : List Int) : ∃ x, aT16 V E (tch16 G) = [x] ∧ MayT G.B G.R G.peer x := by
  have h15 := h.st
  have hR := h.R64
  have : G.st = 1 ∨ G.st = 2 ∨ G.st = 3 ∨ G.st = 4 ∨ G.st = 5 ∨ G.st = 6 ∨ G.st = 7 ∨ G.st = 8 ∨ G.st = 9 ∨ G.st = 10 ∨ G.st = 11 ∨ G.st = 12 ∨ G.st = 13 ∨ G.st = 14 ∨ G.st = 15 := by omega
  unfold aT16 tch16 dT14
  rcases this with e | e | e | e | e | e | e | e | e | e | e | e | e | e | e
  · exact ⟨(4, G.peer, nth14 E G.peer), by simp [e], .inr (.inl ⟨.inl rfl, rfl⟩)⟩
  · exact ⟨(2, ad16 G 3 0 0, 0), by simp [e], mayW 3 0 0 2 0 (by omega) (by unfold okWord; omega) (by omega)⟩
  · exact ⟨(2, ad16 G 1 0 0, ep16 G), by simp [e], mayW 1 0 0 2 _ (by omega) (by unfold okWord; omega) (by omega)⟩
  · exact ⟨(3, 0, 0), by simp [e], .inl rfl⟩
  · exact ⟨(1, ad16 G 2 0 0, nth14 V (ad16 G 2 0 0)), by simp [e], mayW 2 0 0 1 _ (by omega) (by unfold okWord; omega) (by omega)⟩
  · exact ⟨(1, ad16 G 4 0 0, nth14 V (ad16 G 4 0 0)), by simp [e], mayW 4 0 0 1 _ (by omega) (by unfold okWord; omega) (by omega)⟩
  · have m1 := Int.emod_nonneg G.tail (show (G.R : Int) ≠ 0 by omega)
    have m2 := Int.emod_lt_of_pos G.tail (show (0 : Int) < (G.R : Int) by omega)
    exact ⟨(1, ad16 G 6 (G.tail % (G.R : Int)) 0, nth14 V (ad16 G 6 (G.tail % (G.R : Int)) 0)), by simp [e], mayW 6 _ 0 1 _ (by omega) (by unfold okWord; omega) (by omega)⟩
  · have ht := tk16_mem h (h.held (by omega) (by omega))
    have hs := h.word e
    have hl := h.load
    exact ⟨(2, ad16 G 8 (tk16 G) (G.sto : Int), G.load.getD G.sto 0), by simp [e], mayW 8 _ G.sto 2 _ (by omega) (by unfold okWord; omega) (by omega)⟩
  · have ht := tk16_mem h (h.held (by omega) (by omega))
    exact ⟨(2, ad16 G 7 (tk16 G) 0, (G.load.length : Int)), by simp [e], mayW 7 _ 0 2 _ (by omega) (by unfold okWord; omega) (by omega)⟩
  · have m1 := Int.emod_nonneg G.next (show (G.R : Int) ≠ 0 by omega)
    have m2 := Int.emod_lt_of_pos G.next (show (0 : Int) < (G.R : Int) by omega)
    exact ⟨(2, ad16 G 5 (G.next % (G.R : Int)) 0, tk16 G), by simp [e], mayW 5 _ 0 2 _ (by omega) (by unfold okWord; omega) (by omega)⟩
  · exact ⟨(3, 0, 0), by simp [e], .inl rfl⟩
  · exact ⟨(2, ad16 G 3 0 0, addW G.next 1), by simp [e], mayW 3 0 0 2 _ (by omega) (by unfold okWord; omega) (by omega)⟩
  · exact ⟨(3, 0, 0), by simp [e], .inl rfl⟩
  · exact ⟨(5, G.peer, 0), by simp [e], .inr (.inl ⟨.inr rfl, rfl⟩)⟩
  · exact ⟨(4, G.peer, nth14 E G.peer), by simp [e], .inr (.inl ⟨.inl rfl, rfl⟩)⟩

/-- The memory of the law's loop: the argument's variable, the world's variable (block ob), the giver, the world's two lists. -/
structure Lp16 (w wr : World) (g ob : Nat) (bs : List Value) (B : Int) (G : Gv) (V E : List Int) (v1 v2 : Value) (U P : Nat → Prop) : Prop where
  base : Row wr w.heap.size 25 bs
  obj : Row wr ob 38 [v1, v2, .int .i64 B]
  gis : GIs wr U g G
  wld : Wld wr P V E v1 v2
  disj : ∀ x, U x → ¬ P x
  hU : ∀ x, U x → w.heap.size < x ∧ x ≠ ob
  hP : ∀ x, P x → w.heap.size < x ∧ x ≠ ob
  ob_gt : w.heap.size < ob
  below : Below w.heap.size w wr

section
variable {w wr : World} {g ob : Nat} {bs : List Value} {B : Int} {G : Gv} {V E : List Int} {v1 v2 : Value} {U P : Nat → Prop}

theorem Lp16.quiet (L : Lp16 w wr g ob bs B G V E v1 v2 U P) {w1 : World} (hb : Below wr.heap.size wr w1) : Lp16 w w1 g ob bs B G V E v1 v2 U P :=
  ⟨L.base.below hb, L.obj.below hb, L.gis.below hb, L.wld.below hb, L.disj, L.hU, L.hP, L.ob_gt, L.below.trans (hb.mono L.below.size)⟩

/-- The giver alone has changed. -/
theorem Lp16.giver (L : Lp16 w wr g ob bs B G V E v1 v2 U P) {w1 : World} {G' : Gv} (hg : GIs w1 (fun x => U x ∨ wr.heap.size ≤ x) g G') (ho : Only U wr w1) :
    Lp16 w w1 g ob bs B G' V E v1 v2 (fun x => U x ∨ wr.heap.size ≤ x) (fun x => P x ∧ x < wr.heap.size) := by
  have hlt := L.obj.lt
  have hs := L.below.size
  have hbl := L.base.lt
  refine ⟨L.base.only ho (fun h => by have := L.hU _ h; omega), L.obj.only ho (fun h => by have := L.hU _ h; omega), hg, (L.wld.weak (fun x hx hp => ⟨hp, hx⟩)).only ho (fun x hx hp => L.disj x hx hp.1), fun x hx hp => ?_, fun x hx => ?_, fun x hx => L.hP x hx.1, L.ob_gt, Only.below L.below ho hs (fun x hx h => by have := L.hU x h; omega)⟩
  · rcases hx with hx | hx
    · exact L.disj x hx hp.1
    · omega
  · rcases hx with hx | hx
    · exact L.hU x hx
    · omega

/-- The world's lists are other ones. -/
theorem Lp16.world (L : Lp16 w wr g ob bs B G V E v1 v2 U P) {w1 w2 : World} {V' E' : List Int} {u1 u2 : Value} (hb : Below wr.heap.size wr w1) (hw : Wld w1 (fun x => P x ∨ wr.heap.size ≤ x) V' E' u1 u2) (hr : Row w2 ob 38 [u1, u2, .int .i64 B]) (ho : Only (· = ob) w1 w2) :
    Lp16 w w2 g ob bs B G V' E' u1 u2 (fun x => U x ∧ x < wr.heap.size) (fun x => P x ∨ wr.heap.size ≤ x) := by
  have hlt := L.obj.lt
  have hs := L.below.size
  have hbl := L.base.lt
  have hog := L.ob_gt
  refine ⟨(L.base.below hb).only ho (fun h => by omega), hr, ?_, hw.only ho (fun x hx hp => ?_), fun x hx hp => ?_, fun x hx => L.hU x hx.1, fun x hx => ?_, L.ob_gt, Only.below (L.below.trans (hb.mono hs)) ho (by have := hb.size; omega) (fun x hx h => by omega)⟩
  · exact ((L.gis.weak (U' := fun x => U x ∧ x < wr.heap.size) (fun x hx hu => ⟨hu, hx⟩)).below hb).only ho (fun x _ hu h => (L.hU x hu.1).2 h)
  · subst hx
    rcases hp with hp | hp
    · exact (L.hP _ hp).2 rfl
    · omega
  · rcases hp with hp | hp
    · exact L.disj x hx.1 hp
    · omega
  · rcases hx with hx | hx
    · exact L.hP x hx
    · omega
end

#print axioms may16_any
#print axioms mayT16
#print axioms Lp16.world
end Go.Proofs.YtbahnnlenaoomaaDoor
