/-
  Texts merged, with what one theorem needs of them.
  Conditions: those that each theorem states.
-/
import Derived.Test.YtiofipofbeodpaaGreatDoorRows
import Derived.Test.YtiofipofbeodpaaGreatDoorZ1
import Derived.Test.YtiofipofbeodpaaGreatDoorZ2
import Derived.Test.YtiofipofbeodpaaGreatDoorZ3
import Derived.Test.YtiofipofbeodpaaGreatDoorZ4
import Derived.Test.YtiofipofbeodpaaGreatDoorZ5
import Derived.Test.YtiofipofbeodpaaGreatDoorZ6
import Derived.Test.YtiofipofbeodpaaGreatDoorZ7
import Derived.Test.YtiofipofbeodpaaGreatDoorZ8
import Derived.Test.YtiofipofbeodpaaGreatDoorZ9
import Derived.Test.YtiofipofbeodpaaGreatDoorZ10
import Derived.Test.YtiofipofbeodpaaGreatDoorZ11
import Derived.Test.YtiofipofbeodpaaGreatDoorZ12
import Derived.Test.YtiofipofbeodpaaGreatDoorZ13
import Derived.Test.YtiofipofbeodpaaGreatDoorZ14
import Derived.Test.YtiofipofbeodpaaGreatDoorZ15
import Derived.Test.YtiofipofbeodpaaGreatDoorZ16
import Derived.Test.YtiofipofbeodpaaGreatDoorZ17
import Derived.Test.YtiofipofbeodpaaGreatDoorZ18
import Derived.Test.YtiofipofbeodpaaGreatDoorZ19
import Derived.Test.YtiofipofbeodpaaGreatDoorZ20
import Derived.Test.YtiofipofbeodpaaGreatDoorZ25
import Derived.Test.YtiofipofbeodpaaGreatDoorZ26
import Derived.Test.YtiofipofbeodpaaGreatDoorZ27
import Derived.Below
import Derived.BigQuiet
import Derived.Carry
import Derived.ChangeSame
import Derived.Deep.AppendLies
import Derived.Deep.DeepMust
import Derived.Deep.Draws
import Derived.Deep.Fields
import Derived.Deep.MidRow
import Derived.Deep.OwnRows
import Derived.Deep.QuietTactic
import Derived.Deep.RegionHeld3
import Derived.Deep.RegionLaw
import Derived.Deep.RegionWith
import Derived.Deep.Slices
import Derived.Defers
import Derived.Great.BuildSlice
import Derived.Handy
import Derived.IntWalk
import Derived.KernelRfl
import Derived.LaidLaws
import Derived.LaidMore
import Derived.Laws.BitsLemmas
import Derived.Laws.CopyOwn
import Derived.Laws.OwnMore
import Derived.Laws.Rows
import Derived.Lib.Hide
import Derived.Lib.SliceRun
import Derived.Lib.SmallJoins
import Derived.MakeChecks
import Derived.Maps.AppendAt
import Derived.OpenShut
import Derived.ProofKit
import Derived.Recover
import Derived.RegionTactic
import Derived.Scope
import Derived.WalkKit
import Derived.WalkMore
namespace Go.Proofs.YtiofipofbeodpaaGreatDoor

section
open Go.ChangeShapes Go.WideShapes Go.ChangeAt Go.RowKit
/-- What few answers. -/
def few17B (B : Int) (n : Nat) : Bool := decide (n ≤ 150) && decide (B ≤ 500)
theorem few17_yes {B : Int} {n : Nat} (h : few17B B n = true) : n ≤ 150 ∧ B ≤ 500 := by
  simpa [few17B] using h
set_option maxRecDepth 100000 in
set_option maxHeartbeats 1000000 in
theorem few17_any (B R self peer own : Int) (A : Option Addr) (n c : Nat) (w : World) :
    Calls Tryz.prog 4 #[baseV17 B R self peer own, .slice A n c] w fun e w' => e = .returned (.bool (few17B B n)) ∧ Below w.heap.size w w' := by
  have B0 := below_al w (.cells #[.int .i64 B, .int .i64 R, .int .i64 self, .int .i64 peer, .int .i64 own] 25)
  unfold baseV17
  by_cases h1 : n ≤ 150
  · by_cases h2 : B ≤ 500
    · have g1 : decide ((n : Int) ≤ 150) = true := by simp; omega
      have g2 : decide (B ≤ 500) = true := by simpa using h2
      have HF : Hid (few17B B n = true) := Lib.hid (by unfold few17B; simp [h1, h2])
      clear h1 h2
      go_enter Tryz.func4, Tryz.ntmps4
      go_wp2
      go_ret
      rw [HF.out]
      exact ⟨rfl, B0⟩
    · have g1 : decide ((n : Int) ≤ 150) = true := by simp; omega
      have g2 : decide (B ≤ 500) = false := by simpa using h2
      have HF : Hid (few17B B n = false) := Lib.hid (by unfold few17B; simp [h2])
      clear h1 h2
      go_enter Tryz.func4, Tryz.ntmps4
      go_wp2
      go_ret
      rw [HF.out]
      exact ⟨rfl, B0⟩
  · have g1 : decide ((n : Int) ≤ 150) = false := by simp; omega
    have HF : Hid (few17B B n = false) := Lib.hid (by unfold few17B; simp [h1])
    clear h1
    go_enter Tryz.func4, Tryz.ntmps4
    go_wp2
    go_ret
    rw [HF.out]
    exact ⟨rfl, B0⟩
/-- What a call leaves that returns a list of its own. -/
def OwnL17 (xs : List Int) (w : World) (e : Ending) (w' : World) : Prop := ∃ v, e = .returned v ∧ w'.ownsRow w.heap.size 3 1 v xs.length (ints xs) ∧ Below w.heap.size w w'
set_option maxRecDepth 100000 in
set_option maxHeartbeats 2000000 in
theorem set17_any (P : Nat → Prop) (l : List Int) (v : Value) (i x : Int) (w : World) (hv : Lies w P v (ints l)) (hcap : CapOk v) (hl : l.length ≤ 100000) :
    Calls Tryz.prog 16 #[v, .int .i64 i, .int .i64 x] w (OwnL17 (put14 l i x) w) := by
  obtain ⟨i0, hi0, hz0, hz1, hz2⟩ := info_parts int_info
  obtain ⟨A, n, c, rfl, HN, HV⟩ := lies_open hv
  have hn : n ≤ 100000 := by rw [← HN.out]; exact hl
  have O1 := Lib.hid (ints_one l)
  have HPL := Lib.hid (put14_len l i x)
  clear hv hl
  cases h : in14 l i with
  | false =>
    have E := Lib.hid (put14_out x h)
    have h0 := in14_no h
    rw [HN.out] at h0
    clear h
    rcases h0 with h0 | ⟨h0, h1⟩
    · have d0 : decide (0 ≤ i) = false := by simp; omega
      go_enter Tryz.func16, Tryz.ntmps16
      go_wp2_with (at_builtin; go_must (refine app_walk _ rfl (.tmp 8) (.tmp 9) 35 rfl w.heap.size 3 i0 _ 8 Tryz.underlying35 hi0 hz0 hz1 hz2 rfl (.slice (some ⟨w.heap.size, 0, none⟩) 0 0) 0 [] rfl (own_empty _ _ _) P A n c (ints l) rfl (HV.out.below (below_al _ _)) hcap O1.out (by unfold maxLen; omega) (by omega) (by simp) ?_; intro v1 w1 hown1 hg1 hat1; rw [Nat.zero_add, List.nil_append] at hown1; obtain ⟨A1, c1, rfl⟩ := own_open14 hown1; have HO := Lib.hid hown1; have HB := Lib.hid ((below_al w (.cells #[] 3)).grown hg1 (by simp) (by intro k hk; simp only [Value.ownBlock, Option.some.injEq] at hk; omega)); clear hown1 hg1 hat1))
      go_ret
      exact ⟨_, rfl, by rw [E.out, HN.out]; exact HO.out, HB.out⟩
    · have d0 : decide (i < (n : Int)) = false := by simp; omega
      go_enter Tryz.func16, Tryz.ntmps16
      go_wp2_with (at_builtin; go_must (refine app_walk _ rfl (.tmp 8) (.tmp 9) 35 rfl w.heap.size 3 i0 _ 8 Tryz.underlying35 hi0 hz0 hz1 hz2 rfl (.slice (some ⟨w.heap.size, 0, none⟩) 0 0) 0 [] rfl (own_empty _ _ _) P A n c (ints l) rfl (HV.out.below (below_al _ _)) hcap O1.out (by unfold maxLen; omega) (by omega) (by simp) ?_; intro v1 w1 hown1 hg1 hat1; rw [Nat.zero_add, List.nil_append] at hown1; obtain ⟨A1, c1, rfl⟩ := own_open14 hown1; have HO := Lib.hid hown1; have HB := Lib.hid ((below_al w (.cells #[] 3)).grown hg1 (by simp) (by intro k hk; simp only [Value.ownBlock, Option.some.injEq] at hk; omega)); clear hown1 hg1 hat1))
      go_ret
      exact ⟨_, rfl, by rw [E.out, HN.out]; exact HO.out, HB.out⟩
  | true =>
    obtain ⟨k, y, rfl, hx, hk, _, e⟩ := in14_at h
    have E := Lib.hid (e x)
    rw [HN.out] at hk
    have hk' : (k : Int) < (n : Int) := by omega
    have h0 : (0 : Int) ≤ (k : Int) := by omega
    clear h e hx
    go_enter Tryz.func16, Tryz.ntmps16
    go_wp2_with (at_builtin; go_must (refine app_walk _ rfl (.tmp 8) (.tmp 9) 35 rfl w.heap.size 3 i0 _ 8 Tryz.underlying35 hi0 hz0 hz1 hz2 rfl (.slice (some ⟨w.heap.size, 0, none⟩) 0 0) 0 [] rfl (own_empty _ _ _) P A n c (ints l) rfl (HV.out.below (below_al _ _)) hcap O1.out (by unfold maxLen; omega) (by omega) (by simp) ?_; intro v1 w1 hown1 hg1 hat1; rw [Nat.zero_add, List.nil_append] at hown1; obtain ⟨g1, c1, rfl, hgb, hglt⟩ := hown1.form (by omega); have HO := Lib.hid hown1; have HB := Lib.hid ((below_al w (.cells #[] 3)).grown hg1 (by simp) (by intro k hk; simp only [Value.ownBlock, Option.some.injEq] at hk; omega)); have hxc : ∃ u, w1.cell? ⟨g1, k, none⟩ = some u := ⟨_, (hown1.cellAt k (by omega)).trans (List.getElem?_eq_getElem (by have := hown1.1; omega))⟩; have hfz := hown1.frozenAt k; clear hown1 hg1 hat1; obtain ⟨u1, hxc⟩ := hxc))
    go_ret
    refine ⟨_, rfl, ?_, HB.out.setCell (p := ⟨g1, k, none⟩) hgb _⟩
    rw [E.out]
    have := (HO.out.stored k (.int .i64 x)).1
    rw [List.length_set, HN.out, ints_set]
    exact this
/-- The world's two lists lie in memory. -/
structure Wld17 (w : World) (P : Nat → Prop) (V E : List Int) (v1 v2 : Value) : Prop where
  words : Lies w P v1 (ints V)
  epochs : Lies w P v2 (ints E)
  c1 : CapOk v1
  c2 : CapOk v2
theorem Wld17.only {S : Nat → Prop} {w w' : World} {P : Nat → Prop} {V E : List Int} {v1 v2 : Value} (h : Wld17 w P V E v1 v2) (ho : Only S w w') (hS : ∀ g, S g → ¬ P g) : Wld17 w' P V E v1 v2 := ⟨h.words.only ho hS, h.epochs.only ho hS, h.c1, h.c2⟩
theorem Wld17.below {w w' : World} {P : Nat → Prop} {V E : List Int} {v1 v2 : Value} (h : Wld17 w P V E v1 v2) (hb : Below w.heap.size w w') : Wld17 w' P V E v1 v2 := ⟨h.words.below hb, h.epochs.below hb, h.c1, h.c2⟩
theorem Wld17.weak {w : World} {P Q : Nat → Prop} {V E : List Int} {v1 v2 : Value} (h : Wld17 w P V E v1 v2) (hPQ : ∀ g, g < w.heap.size → P g → Q g) : Wld17 w Q V E v1 v2 := ⟨h.words.weak hPQ, h.epochs.weak hPQ, h.c1, h.c2⟩
end

section
open Go.ChangeShapes Go.WideShapes Go.ChangeAt Go.RowKit
/-- The touch is one of those that a taker may make. -/
def MayT17 (B : Int) (R : Nat) (peer : Int) (x : Tch) : Prop :=
  x.1 = 3 ∨ (x.1 = 4 ∧ x.2.1 = peer) ∨ ∃ f s i : Nat, 1 ≤ f ∧ f ≤ 8 ∧ okWord (R : Int) f s i ∧ x.2.1 = B + offP (R : Int) f s i ∧ ((f = 2 ∨ f = 4 ∨ f = 6) ∧ x.1 = 2 ∨ ¬ (f = 2 ∨ f = 4 ∨ f = 6) ∧ x.1 = 1)
theorem mayW17 {G : Tk} (f : Nat) (s : Int) (j : Nat) (κ u : Int) (hf : 1 ≤ f ∧ f ≤ 8) (hw : okWord (G.R : Int) f s j) (hk : (f = 2 ∨ f = 4 ∨ f = 6) ∧ κ = 2 ∨ ¬ (f = 2 ∨ f = 4 ∨ f = 6) ∧ κ = 1) : MayT17 G.B G.R G.peer (κ, ad17 G f s j, u) := by
  have hs : 0 ≤ s := by unfold okWord at hw; omega
  obtain ⟨n, rfl⟩ := Int.eq_ofNat_of_zero_le hs
  refine .inr (.inr ⟨f, n, j, hf.1, hf.2, hw, ?_, hk⟩)
  show ad17 G f n j = _
  unfold ad17 atV13
  rw [if_pos hw]
/-- What is recorded of an access is one touch, which a taker may make. -/
theorem mayT17 {G : Tk} (h : Ok17 G) (h0 : G.st ≠ 0) (V E : List Int) : ∃ x, aT17 V E (tch17 G) = [x] ∧ MayT17 G.B G.R G.peer x := by
  have h14 := h.st
  have hR := h.R64
  have hs := h.slot
  have : G.st = 1 ∨ G.st = 2 ∨ G.st = 3 ∨ G.st = 4 ∨ G.st = 5 ∨ G.st = 6 ∨ G.st = 7 ∨ G.st = 8 ∨ G.st = 9 ∨ G.st = 10 ∨ G.st = 11 ∨ G.st = 12 ∨ G.st = 13 ∨ G.st = 14 := by omega
  unfold aT17 tch17 dT14
  rcases this with e | e | e | e | e | e | e | e | e | e | e | e | e | e
  · exact ⟨(4, G.peer, nth14 E G.peer), by simp [e], .inr (.inl ⟨rfl, rfl⟩)⟩
  · exact ⟨(2, ad17 G 4 0 0, 0), by simp [e], mayW17 4 0 0 2 0 (by omega) (by unfold okWord; omega) (by omega)⟩
  · exact ⟨(2, ad17 G 2 0 0, ep17 G), by simp [e], mayW17 2 0 0 2 _ (by omega) (by unfold okWord; omega) (by omega)⟩
  · exact ⟨(3, 0, 0), by simp [e], .inl rfl⟩
  · exact ⟨(1, ad17 G 1 0 0, nth14 V (ad17 G 1 0 0)), by simp [e], mayW17 1 0 0 1 _ (by omega) (by unfold okWord; omega) (by omega)⟩
  · exact ⟨(1, ad17 G 3 0 0, nth14 V (ad17 G 3 0 0)), by simp [e], mayW17 3 0 0 1 _ (by omega) (by unfold okWord; omega) (by omega)⟩
  · have m1 := Int.emod_nonneg G.head (show (G.R : Int) ≠ 0 by omega)
    have m2 := Int.emod_lt_of_pos G.head (show (0 : Int) < (G.R : Int) by omega)
    exact ⟨(1, ad17 G 5 (G.head % (G.R : Int)) 0, nth14 V (ad17 G 5 (G.head % (G.R : Int)) 0)), by simp [e], mayW17 5 _ 0 1 _ (by omega) (by unfold okWord; omega) (by omega)⟩
  · exact ⟨(1, ad17 G 7 G.slot 0, nth14 V (ad17 G 7 G.slot 0)), by simp [e], mayW17 7 _ 0 1 _ (by omega) (by unfold okWord; omega) (by omega)⟩
  · have hw := h.word e
    exact ⟨(1, ad17 G 8 G.slot (G.load.length : Int), nth14 V (ad17 G 8 G.slot (G.load.length : Int))), by simp [e], mayW17 8 _ G.load.length 1 _ (by omega) (by unfold okWord; omega) (by omega)⟩
  · have m1 := Int.emod_nonneg G.used (show (G.R : Int) ≠ 0 by omega)
    have m2 := Int.emod_lt_of_pos G.used (show (0 : Int) < (G.R : Int) by omega)
    exact ⟨(2, ad17 G 6 (G.used % (G.R : Int)) 0, G.slot), by simp [e], mayW17 6 _ 0 2 _ (by omega) (by unfold okWord; omega) (by omega)⟩
  · exact ⟨(3, 0, 0), by simp [e], .inl rfl⟩
  · exact ⟨(2, ad17 G 4 0 0, addW G.used 1), by simp [e], mayW17 4 0 0 2 _ (by omega) (by unfold okWord; omega) (by omega)⟩
  · exact ⟨(3, 0, 0), by simp [e], .inl rfl⟩
  · exact ⟨(4, G.peer, nth14 E G.peer), by simp [e], .inr (.inl ⟨rfl, rfl⟩)⟩
end

section
open Go.ChangeShapes Go.WideShapes Go.ChangeAt Go.RowKit
/-- The memory of the law's loop: the argument's variable, the taker, the two lists. -/
structure Lq17 (w wr : World) (g : Nat) (bs : List Value) (G : Tk) (V E : List Int) (v1 v2 : Value) (U P : Nat → Prop) : Prop where
  base : Row wr w.heap.size 25 bs
  kis : KIs wr U g G
  wld : Wld17 wr P V E v1 v2
  disj : ∀ x, U x → ¬ P x
  hU : ∀ x, U x → w.heap.size < x
  hP : ∀ x, P x → w.heap.size < x
  below : Below w.heap.size w wr
section
variable {w wr : World} {g : Nat} {bs : List Value} {G : Tk} {V E : List Int} {v1 v2 : Value} {U P : Nat → Prop}
theorem Lq17.quiet (L : Lq17 w wr g bs G V E v1 v2 U P) {w1 : World} (hb : Below wr.heap.size wr w1) : Lq17 w w1 g bs G V E v1 v2 U P :=
  ⟨L.base.below hb, L.kis.below hb, L.wld.below hb, L.disj, L.hU, L.hP, L.below.trans (hb.mono L.below.size)⟩
/-- The taker alone has changed. -/
theorem Lq17.taker (L : Lq17 w wr g bs G V E v1 v2 U P) {w1 : World} {G' : Tk} (hg : KIs w1 (fun x => U x ∨ wr.heap.size ≤ x) g G') (ho : Only U wr w1) :
    Lq17 w w1 g bs G' V E v1 v2 (fun x => U x ∨ wr.heap.size ≤ x) (fun x => P x ∧ x < wr.heap.size) := by
  have hs := L.below.size
  have hbl := L.base.lt
  refine ⟨L.base.only ho (fun h => by have := L.hU _ h; omega), hg, (L.wld.weak (fun x hx hp => ⟨hp, hx⟩)).only ho (fun x hx hp => L.disj x hx hp.1), fun x hx hp => ?_, fun x hx => ?_, fun x hx => L.hP x hx.1, Only.below L.below ho hs (fun x hx h => by have := L.hU x h; omega)⟩
  · rcases hx with hx | hx
    · exact L.disj x hx hp.1
    · omega
  · rcases hx with hx | hx
    · exact L.hU x hx
    · omega
/-- Other lists lie in the place of the two. -/
theorem Lq17.lists (L : Lq17 w wr g bs G V E v1 v2 U P) {w1 : World} {V' E' : List Int} {u1 u2 : Value} (hb : Below wr.heap.size wr w1) (hw : Wld17 w1 (fun x => P x ∨ wr.heap.size ≤ x) V' E' u1 u2) :
    Lq17 w w1 g bs G V' E' u1 u2 (fun x => U x ∧ x < wr.heap.size) (fun x => P x ∨ wr.heap.size ≤ x) := by
  have hbl := L.base.lt
  refine ⟨L.base.below hb, (L.kis.weak (U' := fun x => U x ∧ x < wr.heap.size) (fun x hx hu => ⟨hu, hx⟩)).below hb, hw, fun x hx hp => ?_, fun x hx => L.hU x hx.1, fun x hx => ?_, L.below.trans (hb.mono L.below.size)⟩
  · rcases hp with hp | hp
    · exact L.disj x hx.1 hp
    · omega
  · rcases hx with hx | hx
    · exact L.hP x hx
    · omega
theorem Lq17.setV (L : Lq17 w wr g bs G V E v1 v2 U P) {w1 : World} {V' : List Int} {u : Value} (hb : Below wr.heap.size wr w1) (ho : w1.ownsRow wr.heap.size 3 1 u V'.length (ints V')) :
    Lq17 w w1 g bs G V' E u v2 (fun x => U x ∧ x < wr.heap.size) (fun x => P x ∨ wr.heap.size ≤ x) :=
  L.lists hb ⟨(Lies.of_own ho).weak (fun _ _ h => .inr h), (L.wld.epochs.below hb).weak (fun _ _ h => .inl h), CapOk.of_own ho, L.wld.c2⟩
theorem Lq17.setE (L : Lq17 w wr g bs G V E v1 v2 U P) {w1 : World} {E' : List Int} {u : Value} (hb : Below wr.heap.size wr w1) (ho : w1.ownsRow wr.heap.size 3 1 u E'.length (ints E')) :
    Lq17 w w1 g bs G V E' v1 u (fun x => U x ∧ x < wr.heap.size) (fun x => P x ∨ wr.heap.size ≤ x) :=
  L.lists hb ⟨(L.wld.words.below hb).weak (fun _ _ h => .inl h), (Lies.of_own ho).weak (fun _ _ h => .inr h), L.wld.c1, CapOk.of_own ho⟩
/-- Behind a Step, and behind the words that the port then holds. -/
theorem Lq17.port (L : Lq17 w wr g bs G V E v1 v2 U P) {w5 w6 w7 : World} {t p : Nat} {u : Value} {G' : Tk} {V6 E6 K6 V7 : List Int} {T6 : List Tch} (b5 : Below wr.heap.size wr w5) (s6 : Sys17 w6 (fun x => (U x ∨ wr.heap.size ≤ x) ∨ w5.heap.size ≤ x) g t p G' V6 E6 K6 T6)
    (o6 : Only (fun x => U x ∨ wr.heap.size ≤ x) w5 w6) (b7 : Below w6.heap.size w6 w7) (own7 : w7.ownsRow w6.heap.size 3 1 u V7.length (ints V7)) :
    Lq17 w w7 g bs G' V7 E u v2 (fun x => (U x ∨ wr.heap.size ≤ x) ∧ x < w6.heap.size) (fun x => (P x ∧ x < wr.heap.size) ∨ w6.heap.size ≤ x) ∧
    Sys17 w7 (fun x => (U x ∨ wr.heap.size ≤ x) ∧ x < w6.heap.size) g t p G' V6 E6 K6 T6 := by
  have hs := L.below.size
  have hbl := L.base.lt
  have hs5 := b5.size
  have hs6 := o6.size
  have hs7 := b7.size
  have s6' : Sys17 w6 (fun x => (U x ∨ wr.heap.size ≤ x) ∧ x < w6.heap.size) g t p G' V6 E6 K6 T6 := s6.weak (fun x hx h => ⟨by rcases h with h | h; exact h; exact .inr (by omega), hx⟩)
  have s7 := s6'.below b7
  have hnU : ∀ x, x < wr.heap.size → ¬ U x → ¬ (U x ∨ wr.heap.size ≤ x) := fun x h1 h2 h => h.elim h2 (by omega)
  refine ⟨⟨((L.base.below b5).only o6 (hnU _ hbl (fun h => by have := L.hU _ h; omega))).below b7, s7.gis, ⟨(Lies.of_own own7).weak (fun x _ h => .inr h), ?_, CapOk.of_own own7, L.wld.c2⟩, fun x hx hp => ?_, fun x hx => ?_, fun x hx => ?_, ?_⟩, s7⟩
  · exact (((L.wld.epochs.weak (Q := fun x => P x ∧ x < wr.heap.size) (fun x hx hp => ⟨hp, hx⟩)).below b5).only o6 (fun x hx hp => hnU x hp.2 (fun h => L.disj x h hp.1) hx)).below b7 |>.weak (fun x _ h => .inl h)
  · rcases hp with hp | hp
    · rcases hx.1 with h | h
      · exact L.disj x h hp.1
      · omega
    · omega
  · rcases hx.1 with h | h
    · exact L.hU x h
    · omega
  · rcases hx with h | h
    · exact L.hP x h.1
    · omega
  · refine (Only.below (L.below.trans (b5.mono hs)) o6 (by omega) (fun x hx h => ?_)).trans (b7.mono (by omega))
    rcases h with h | h
    · have := L.hU x h; omega
    · omega
end
end

end Go.Proofs.YtiofipofbeodpaaGreatDoor
