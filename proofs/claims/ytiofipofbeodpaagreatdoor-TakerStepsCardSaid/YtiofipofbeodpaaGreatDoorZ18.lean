/-
  Texts merged, with what one theorem needs of them.
  Conditions: those that each theorem states.
-/
import Derived.Test.YtiofipofbeodpaaGreatDoorRows
import Derived.Test.YtiofipofbeodpaaGreatDoorZ1
import Derived.Test.YtiofipofbeodpaaGreatDoorZ2
import Derived.Test.YtiofipofbeodpaaGreatDoorZ3
import Derived.Test.YtiofipofbeodpaaGreatDoorZ4
import Derived.Test.YtiofipofbeodpaaGreatDoorZ5
import Derived.Test.YtiofipofbeodpaaGreatDoorZ6
import Derived.Test.YtiofipofbeodpaaGreatDoorZ7
import Derived.Test.YtiofipofbeodpaaGreatDoorZ8
import Derived.Test.YtiofipofbeodpaaGreatDoorZ9
import Derived.Test.YtiofipofbeodpaaGreatDoorZ10
import Derived.Test.YtiofipofbeodpaaGreatDoorZ11
import Derived.Test.YtiofipofbeodpaaGreatDoorZ12
import Derived.Test.YtiofipofbeodpaaGreatDoorZ13
import Derived.Test.YtiofipofbeodpaaGreatDoorZ14
import Derived.Test.YtiofipofbeodpaaGreatDoorZ15
import Derived.Test.YtiofipofbeodpaaGreatDoorZ16
import Derived.Test.YtiofipofbeodpaaGreatDoorZ17
import Derived.Below
import Derived.BigQuiet
import Derived.Deep.AppendLies
import Derived.Deep.DeepMust
import Derived.Deep.Draws
import Derived.Deep.MidRow
import Derived.Deep.OwnRows
import Derived.Deep.QuietTactic
import Derived.Deep.RegionHeld3
import Derived.Deep.RegionLaw
import Derived.Deep.RegionWith
import Derived.Defers
import Derived.Great.BuildSlice
import Derived.Handy
import Derived.IntWalk
import Derived.LaidLaws
import Derived.LaidMore
import Derived.Laws.BitsLemmas
import Derived.Laws.CopyOwn
import Derived.Laws.OwnMore
import Derived.Laws.Rows
import Derived.Lib.Hide
import Derived.Lib.SliceRun
import Derived.MakeChecks
import Derived.Maps.AppendAt
import Derived.OpenShut
import Derived.ProofKit
import Derived.Recover
import Derived.RegionTactic
import Derived.WalkKit
namespace Go.Proofs.YtiofipofbeodpaaGreatDoor

section
open Go.ChangeShapes Go.WideShapes Go.ChangeAt Go.RowKit
/-- The first place of a number from k on. -/
def NoneTo17 (l : List Int) (x : Int) (k : Nat) : Prop := ∀ j : Nat, j < k → l[j]? ≠ some x
/-- What Index answers: the first place of a number, or -1. -/
def IdxIs17 (l : List Int) (x : Int) (n : Int) : Prop := (n = -1 ∧ x ∉ l) ∨ ∃ k : Nat, n = k ∧ l[k]? = some x ∧ NoneTo17 l x k
set_option maxRecDepth 100000 in
set_option maxHeartbeats 1000000 in
theorem index17_any (P : Nat → Prop) (l : List Int) (v : Value) (x : Int) (w : World) (hv : Lies w P v (ints l)) (hl : l.length ≤ 65536) :
    Calls Tryz.prog 84 #[v, .int .i64 x] w fun e w' => (∃ n, e = .returned (.int .i64 n) ∧ IdxIs17 l x n) ∧ w = w' := by
  obtain ⟨A, n, c, rfl, HN, HV⟩ := lies_open hv
  have hn : n ≤ 65536 := by rw [← HN.out]; exact hl
  clear hv hl
  go_enter Tryz.func84, Tryz.ntmps84
  go_wp2
  go_loopw [8] (fun i wr => ∃ k : Nat, k ≤ n ∧ i = .int .i64 k ∧ Hid (NoneTo17 l x k) ∧ w = wr) (fun i _ => n - (intOf i).toNat)
  case atStart => exact ⟨0, Nat.zero_le _, rfl, Lib.hid (fun j h => by omega), rfl⟩
  case round =>
    obtain ⟨k, hk, rfl, HT, rfl⟩ := hrel
    by_cases hlt : k < n
    · obtain ⟨a, ha⟩ : ∃ a, l[k]? = some a := ⟨_, List.getElem?_eq_getElem (by rw [HN.out]; exact hlt)⟩
      obtain ⟨g, o, rfl, hP, hg, hc⟩ := lies_at HV.out ha
      have hkn : (k : Int) < (n : Int) := by omega
      have A1 := Lib.hid ha; clear ha
      by_cases he : x = a
      · subst he
        have hx : (x == x) = true := by simp
        go_wp2
        go_ret
        exact ⟨⟨_, rfl, .inr ⟨k, rfl, A1.out, HT.out⟩⟩, rfl⟩
      · have hx : (x == a) = false := by simpa using he
        have HX := Lib.hid he
        clear he
        go_wp2
        go_roundw
        case rel =>
          refine ⟨k + 1, by omega, by go_num, Lib.hid (fun j hj h => ?_), trivial⟩
          by_cases e : j = k
          · subst e
            rw [A1.out] at h
            exact HX.out (Option.some.inj h).symm
          · exact HT.out j (by omega) h
        case measure => simp [intOf]; omega
    · obtain rfl : k = n := by omega
      go_wp2
      go_ret
      refine ⟨⟨_, rfl, .inl ⟨rfl, fun h => ?_⟩⟩, rfl⟩
      obtain ⟨j, hj⟩ := List.mem_iff_getElem?.1 h
      exact HT.out j (by have := lt_of_at hj; rw [HN.out] at this; exact this) hj
set_option maxRecDepth 100000 in
set_option maxHeartbeats 400000 in
theorem below17_any (n c : Int) (w : World) :
    Calls Tryz.prog 51 #[.int .i64 n, .int .i64 c] w fun e w' => e = .returned (.bool (decide (0 ≤ n ∧ n < c))) ∧ w = w' := by
  by_cases h0 : 0 ≤ n
  · by_cases h1 : n < c
    · have t0 : decide (0 ≤ n) = true := by simpa using h0
      have t1 : decide (n < c) = true := by simpa using h1
      rw [decide_eq_true (⟨h0, h1⟩ : 0 ≤ n ∧ n < c)]
      go_enter Tryz.func51, Tryz.ntmps51
      go_wp2
      go_ret
      exact ⟨rfl, rfl⟩
    · have t0 : decide (0 ≤ n) = true := by simpa using h0
      have t1 : decide (n < c) = false := by simpa using h1
      rw [decide_eq_false (show ¬ (0 ≤ n ∧ n < c) from fun h => h1 h.2)]
      go_enter Tryz.func51, Tryz.ntmps51
      go_wp2
      go_ret
      exact ⟨rfl, rfl⟩
  · have t0 : decide (0 ≤ n) = false := by simpa using h0
    rw [decide_eq_false (show ¬ (0 ≤ n ∧ n < c) from fun h => h0 h.1)]
    go_enter Tryz.func51, Tryz.ntmps51
    go_wp2
    go_ret
    exact ⟨rfl, rfl⟩
set_option maxRecDepth 100000 in
set_option maxHeartbeats 1000000 in
theorem contains17_any (P : Nat → Prop) (l : List Int) (v : Value) (x : Int) (w : World) (hv : Lies w P v (ints l)) (hl : l.length ≤ 65536) :
    Calls Tryz.prog 75 #[v, .int .i64 x] w fun e w' => e = .returned (.bool (decide (x ∈ l))) ∧ w = w' := by
  have HK := Lib.hid (index17_any P l v x w hv hl)
  obtain ⟨A, n, c, rfl, HN, HV⟩ := lies_open hv
  clear hv hl
  obtain ⟨o, ho⟩ : ∃ o, decide (x ∈ l) = o := ⟨_, rfl⟩
  rw [ho]
  have HO := Lib.hid ho
  clear ho
  go_enter Tryz.func75, Tryz.ntmps75
  go_wp2_with fail
  refine HK.out.mono ?_
  rintro e w' ⟨⟨n, rfl, h0⟩, rfl⟩
  have h1 : decide (0 ≤ n) = o := by
    rw [← HO.out]
    rcases h0 with ⟨rfl, h⟩ | ⟨k, rfl, h, _⟩
    · rw [decide_eq_false h]; rfl
    · rw [decide_eq_true (List.mem_of_getElem? h)]; simp
  clear h0
  go_wp2
  go_ret
  exact ⟨rfl, rfl⟩
/-- There is such a taker. -/
def ok17 (B R self peer own : Int) : Prop := okRing R ∧ (0 ≤ B ∧ B < 65536) ∧ (0 ≤ self ∧ self < 8) ∧ (0 ≤ peer ∧ peer < 8) ∧ self ≠ peer ∧ (0 ≤ own ∧ own < 65536)
instance (B R self peer own : Int) : Decidable (ok17 B R self peer own) := by unfold ok17; infer_instance
/-- A new taker. -/
def new17 (B : Int) (R : Nat) (peer own : Int) : Tk := { B := B, R := R, peer := peer, own := own, known := 0, knows := own == 0, st := 0, ins := false, tab := new15 R, linked := false, head := 0, used := 0, rel := false, slot := 0, cnt := 0, load := [], res := 0, gl := [], gh := 0 }
/-- What New leaves. -/
def Made17 (T : Tk) (w : World) (e : Ending) (w' : World) : Prop := ∃ k s vl vg, e = .returned (ptr k) ∧ KAt w' k T s vl vg ∧ (∀ x, own17 k s vl vg x → w.heap.size ≤ x) ∧ Below w.heap.size w w'
section
variable {B R self peer own : Int}
set_option maxRecDepth 100000 in
set_option maxHeartbeats 1000000 in
theorem new17_no0 (h0 : ¬ okRing R) (w : World) :
    Calls Tryz.prog 28 #[plV B R, .int .i64 self, .int .i64 peer, .int .i64 own] w fun e w' => e = .returned (.pointer none) ∧ Below w.heap.size w w' := by
  have SZ := Lib.hid (show (sizeP R) = 0 from if_neg h0)
  clear h0
  unfold plV
  go_enter Tryz.func28, Tryz.ntmps28
  go_wp2_with fail
  refine (size13_any _ _).mono ?_
  rintro e w' ⟨rfl, rfl⟩
  rw [SZ.out]
  go_wp2
  go_ret
  exact ⟨rfl, below_al _ _⟩
set_option maxRecDepth 100000 in
set_option maxHeartbeats 1000000 in
theorem new17_no1 (h0 : okRing R) (h1 : ¬ (0 ≤ B ∧ B < 65536)) (w : World) :
    Calls Tryz.prog 28 #[plV B R, .int .i64 self, .int .i64 peer, .int .i64 own] w fun e w' => e = .returned (.pointer none) ∧ Below w.heap.size w w' := by
  have hR2 : (4 + 11 * R == 0) = false := by have := h0.bd; simp; omega
  have SZ := Lib.hid (show (sizeP R) = 4 + 11 * R from if_pos h0)
  clear h0
  have D1 := Lib.hid (decide_eq_false h1)
  clear h1
  unfold plV
  go_enter Tryz.func28, Tryz.ntmps28
  go_wp2_with fail
  refine (size13_any _ _).mono ?_
  rintro e w' ⟨rfl, rfl⟩
  rw [SZ.out]
  go_wp2_with fail
  refine (below17_any _ _ _).mono ?_
  rintro e w' ⟨rfl, rfl⟩
  rw [D1.out]
  go_wp2
  go_ret
  exact ⟨rfl, below_al _ _⟩
set_option maxRecDepth 100000 in
set_option maxHeartbeats 1000000 in
theorem new17_no2 (h0 : okRing R) (h1 : 0 ≤ B ∧ B < 65536) (h2 : ¬ (0 ≤ self ∧ self < 8)) (w : World) :
    Calls Tryz.prog 28 #[plV B R, .int .i64 self, .int .i64 peer, .int .i64 own] w fun e w' => e = .returned (.pointer none) ∧ Below w.heap.size w w' := by
  have hR2 : (4 + 11 * R == 0) = false := by have := h0.bd; simp; omega
  have SZ := Lib.hid (show (sizeP R) = 4 + 11 * R from if_pos h0)
  clear h0
  have D1 := Lib.hid (decide_eq_true h1)
  clear h1
  have D2 := Lib.hid (decide_eq_false h2)
  clear h2
  unfold plV
  go_enter Tryz.func28, Tryz.ntmps28
  go_wp2_with fail
  refine (size13_any _ _).mono ?_
  rintro e w' ⟨rfl, rfl⟩
  rw [SZ.out]
  go_wp2_with fail
  refine (below17_any _ _ _).mono ?_
  rintro e w' ⟨rfl, rfl⟩
  rw [D1.out]
  go_wp2_with fail
  refine (below17_any _ _ _).mono ?_
  rintro e w' ⟨rfl, rfl⟩
  rw [D2.out]
  go_wp2
  go_ret
  exact ⟨rfl, below_al _ _⟩
set_option maxRecDepth 100000 in
set_option maxHeartbeats 1000000 in
theorem new17_no3 (h0 : okRing R) (h1 : 0 ≤ B ∧ B < 65536) (h2 : 0 ≤ self ∧ self < 8) (h3 : ¬ (0 ≤ peer ∧ peer < 8)) (w : World) :
    Calls Tryz.prog 28 #[plV B R, .int .i64 self, .int .i64 peer, .int .i64 own] w fun e w' => e = .returned (.pointer none) ∧ Below w.heap.size w w' := by
  have hR2 : (4 + 11 * R == 0) = false := by have := h0.bd; simp; omega
  have SZ := Lib.hid (show (sizeP R) = 4 + 11 * R from if_pos h0)
  clear h0
  have D1 := Lib.hid (decide_eq_true h1)
  clear h1
  have D2 := Lib.hid (decide_eq_true h2)
  clear h2
  have D3 := Lib.hid (decide_eq_false h3)
  clear h3
  unfold plV
  go_enter Tryz.func28, Tryz.ntmps28
  go_wp2_with fail
  refine (size13_any _ _).mono ?_
  rintro e w' ⟨rfl, rfl⟩
  rw [SZ.out]
  go_wp2_with fail
  refine (below17_any _ _ _).mono ?_
  rintro e w' ⟨rfl, rfl⟩
  rw [D1.out]
  go_wp2_with fail
  refine (below17_any _ _ _).mono ?_
  rintro e w' ⟨rfl, rfl⟩
  rw [D2.out]
  go_wp2_with fail
  refine (below17_any _ _ _).mono ?_
  rintro e w' ⟨rfl, rfl⟩
  rw [D3.out]
  go_wp2
  go_ret
  exact ⟨rfl, below_al _ _⟩
set_option maxRecDepth 100000 in
set_option maxHeartbeats 1000000 in
theorem new17_no4 (h0 : okRing R) (h1 : 0 ≤ B ∧ B < 65536) (h2 : 0 ≤ self ∧ self < 8) (h3 : 0 ≤ peer ∧ peer < 8) (h4 : self = peer) (w : World) :
    Calls Tryz.prog 28 #[plV B R, .int .i64 self, .int .i64 peer, .int .i64 own] w fun e w' => e = .returned (.pointer none) ∧ Below w.heap.size w w' := by
  have hR2 : (4 + 11 * R == 0) = false := by have := h0.bd; simp; omega
  have SZ := Lib.hid (show (sizeP R) = 4 + 11 * R from if_pos h0)
  clear h0
  have D1 := Lib.hid (decide_eq_true h1)
  clear h1
  have D2 := Lib.hid (decide_eq_true h2)
  clear h2
  have D3 := Lib.hid (decide_eq_true h3)
  clear h3
  have hsp : (self == peer) = true := by rw [h4]; simp
  clear h4
  unfold plV
  go_enter Tryz.func28, Tryz.ntmps28
  go_wp2_with fail
  refine (size13_any _ _).mono ?_
  rintro e w' ⟨rfl, rfl⟩
  rw [SZ.out]
  go_wp2_with fail
  refine (below17_any _ _ _).mono ?_
  rintro e w' ⟨rfl, rfl⟩
  rw [D1.out]
  go_wp2_with fail
  refine (below17_any _ _ _).mono ?_
  rintro e w' ⟨rfl, rfl⟩
  rw [D2.out]
  go_wp2_with fail
  refine (below17_any _ _ _).mono ?_
  rintro e w' ⟨rfl, rfl⟩
  rw [D3.out]
  go_wp2
  go_ret
  exact ⟨rfl, below_al _ _⟩
set_option maxRecDepth 100000 in
set_option maxHeartbeats 1000000 in
theorem new17_no5 (h0 : okRing R) (h1 : 0 ≤ B ∧ B < 65536) (h2 : 0 ≤ self ∧ self < 8) (h3 : 0 ≤ peer ∧ peer < 8) (h4 : self ≠ peer) (h5 : ¬ (0 ≤ own ∧ own < 65536)) (w : World) :
    Calls Tryz.prog 28 #[plV B R, .int .i64 self, .int .i64 peer, .int .i64 own] w fun e w' => e = .returned (.pointer none) ∧ Below w.heap.size w w' := by
  have hR2 : (4 + 11 * R == 0) = false := by have := h0.bd; simp; omega
  have SZ := Lib.hid (show (sizeP R) = 4 + 11 * R from if_pos h0)
  clear h0
  have D1 := Lib.hid (decide_eq_true h1)
  clear h1
  have D2 := Lib.hid (decide_eq_true h2)
  clear h2
  have D3 := Lib.hid (decide_eq_true h3)
  clear h3
  have hsp : (self == peer) = false := by simpa using h4
  clear h4
  have D5 := Lib.hid (decide_eq_false h5)
  clear h5
  unfold plV
  go_enter Tryz.func28, Tryz.ntmps28
  go_wp2_with fail
  refine (size13_any _ _).mono ?_
  rintro e w' ⟨rfl, rfl⟩
  rw [SZ.out]
  go_wp2_with fail
  refine (below17_any _ _ _).mono ?_
  rintro e w' ⟨rfl, rfl⟩
  rw [D1.out]
  go_wp2_with fail
  refine (below17_any _ _ _).mono ?_
  rintro e w' ⟨rfl, rfl⟩
  rw [D2.out]
  go_wp2_with fail
  refine (below17_any _ _ _).mono ?_
  rintro e w' ⟨rfl, rfl⟩
  rw [D3.out]
  go_wp2_with fail
  refine (below17_any _ _ _).mono ?_
  rintro e w' ⟨rfl, rfl⟩
  rw [D5.out]
  go_wp2
  go_ret
  exact ⟨rfl, below_al _ _⟩
theorem new17_no (h : ¬ ok17 B R self peer own) (w : World) :
    Calls Tryz.prog 28 #[plV B R, .int .i64 self, .int .i64 peer, .int .i64 own] w fun e w' => e = .returned (.pointer none) ∧ Below w.heap.size w w' := by
  by_cases h0 : okRing R
  · by_cases h1 : 0 ≤ B ∧ B < 65536
    · by_cases h2 : 0 ≤ self ∧ self < 8
      · by_cases h3 : 0 ≤ peer ∧ peer < 8
        · by_cases h4 : self = peer
          · exact new17_no4 h0 h1 h2 h3 h4 w
          · exact new17_no5 h0 h1 h2 h3 h4 (fun h5 => h ⟨h0, h1, h2, h3, h4, h5⟩) w
        · exact new17_no3 h0 h1 h2 h3 w
      · exact new17_no2 h0 h1 h2 w
    · exact new17_no1 h0 h1 w
  · exact new17_no0 h0 w
set_option maxRecDepth 100000 in
set_option maxHeartbeats 2000000 in
theorem new17_yes (r : Nat) (h : ok17 B (r : Int) self peer own) (w : World) :
    Calls Tryz.prog 28 #[plV B (r : Int), .int .i64 self, .int .i64 peer, .int .i64 own] w (Made17 (new17 B r peer own) w) := by
  obtain ⟨h0, h1, h2, h3, h4, h5⟩ := h
  have hr64 : 1 ≤ r ∧ r ≤ 64 := by have := h0.bd; omega
  have hR2 : (4 + 11 * (r : Int) == 0) = false := by simp; omega
  have SZ := Lib.hid (show (sizeP (r : Int)) = 4 + 11 * (r : Int) from if_pos h0)
  have hsp : (self == peer) = false := by simpa using h4
  have D1 := Lib.hid (decide_eq_true h1)
  have D2 := Lib.hid (decide_eq_true h2)
  have D3 := Lib.hid (decide_eq_true h3)
  have D5 := Lib.hid (decide_eq_true h5)
  have UN := Lib.hid (fun W => (new15_yes r W hr64.1 hr64.2).mono (fun e w' (h : Made15 (new15 r) W e w') => show ∃ f, e = .returned (.pointer (some ⟨f, 0, none⟩)) ∧ GrAt w' f (new15 r) ∧ W.heap.size ≤ f ∧ Below W.heap.size W w' from h))
  clear h0 h1 h2 h3 h4 h5
  unfold plV
  obtain ⟨w1, hw1⟩ : ∃ w1, w1 = w.alloc (.cells #[.int .i64 B, .int .i64 (r : Int)] 23) := ⟨_, rfl⟩
  have R0 : Hid (Row w1 w.heap.size 23 [.int .i64 B, .int .i64 (r : Int)]) := Lib.hid (by rw [hw1]; exact Row.new w _ #[.int .i64 B, .int .i64 (r : Int)])
  have B1 : Hid (Below w.heap.size w w1) := Lib.hid (by rw [hw1]; exact below_al _ _)
  go_enter Tryz.func28, Tryz.ntmps28
  go_wp2_with fail
  refine (size13_any _ _).mono ?_
  rintro e w' ⟨rfl, rfl⟩
  rw [SZ.out]
  go_wp2_with fail
  refine (below17_any _ _ _).mono ?_
  rintro e w' ⟨rfl, rfl⟩
  rw [D1.out]
  go_wp2_with fail
  refine (below17_any _ _ _).mono ?_
  rintro e w' ⟨rfl, rfl⟩
  rw [D2.out]
  go_wp2_with fail
  refine (below17_any _ _ _).mono ?_
  rintro e w' ⟨rfl, rfl⟩
  rw [D3.out]
  go_wp2_with fail
  refine (below17_any _ _ _).mono ?_
  rintro e w' ⟨rfl, rfl⟩
  rw [D5.out]
  go_wp2
  rw [← hw1]
  clear hw1
  have HT : Hid (∀ W, Below w1.heap.size w1 W → W.cell? ⟨w.heap.size, 0, none⟩ = some (.int .i64 B) ∧ W.cell? ⟨w.heap.size, 1, none⟩ = some (.int .i64 (r : Int)) ∧ Below w1.heap.size w1 W) := Lib.hid (fun W hb => ⟨(R0.out.below hb).cell 0, (R0.out.below hb).cell 1, hb⟩)
  generalize hP : w.heap.size = P at *
  go_region_held3 (fun W => W.cell? ⟨P, 0, none⟩ = some (.int .i64 B) ∧ W.cell? ⟨P, 1, none⟩ = some (.int .i64 (r : Int)) ∧ Below w1.heap.size w1 W)
    (first | exact HT.out _ (Below.refl _ _).drew | exact HT.out _ hb6 | exact HT.out _ (hb7 _) | go_keep)
    (first
      | (go_at_call 52; refine (UN.out _).mono ?_; rintro e w5 ⟨f, rfl, rf, hf, hb5⟩; have hb6 : Below w1.heap.size w1 w5 := below_on (Below.refl _ _).drew hb5; have hb7 := fun o => hb6.alloc hb6.size o))
  go_wp2
  go_ret
  subst hP
  have hs1 := B1.out.size
  have hs2 := hb6.size
  have hfl := rf.row.lt
  have hf' : w1.heap.size ≤ f := hf
  refine ⟨w5.heap.size, f, .slice none 0 0, .slice none 0 0, rfl, ⟨⟨Row.new w5 88 _, rf.below (below_al _ _), World.ownsRow_nil _ _ _ _, World.ownsRow_nil _ _ _ _⟩, (fun _ h => by cases h)⟩, fun x hx => ?_, (below_on B1.out hb6).trans ((below_al w5 _).mono (Nat.le_trans hs1 hs2))⟩
  rcases hx with rfl | rfl | h | h
  · omega
  · omega
  · cases h
  · cases h
end
/-- What Recv and Release answer, and what they leave. -/
def recE17 (T : Tk) : Int := if T.st = 0 then 0 else 11
def recT17 (T : Tk) : Tk := if T.st = 0 then begin17 T false 0 else T
def relE17 (T : Tk) (h : Int) : Int := if T.st = 0 then dropE15 T.tab h else 11
def relT17 (T : Tk) (h : Int) : Tk := if T.st = 0 ∧ dropE15 T.tab h = 0 then begin17 { T with tab := dropL15 T.tab h } true (slotV15 T.tab h) else T
section
variable {k s : Nat} {T : Tk} {vl vg : Value}
set_option maxRecDepth 100000 in
set_option maxHeartbeats 1000000 in
theorem recv17_any (w : World) (r : KAt w k T s vl vg) :
    Calls Tryz.prog 12 #[.pointer (some ⟨k, 0, none⟩)] w (KP17 k s (recT17 T) vl vg (.int .i64 (recE17 T)) w) := by
  have R := Lib.hid r
  have KB := Lib.hid (busy17_any w r)
  by_cases h0 : T.st = 0
  · have e0 : ((T.st : Int) != 0) = false := by rw [h0]; rfl
    rw [e0] at KB
    have HE : Hid (recE17 T = 0 ∧ recT17 T = begin17 T false 0) := Lib.hid ⟨if_pos h0, if_pos h0⟩
    have KG := Lib.hid (begin17_any false 0 w r)
    clear r h0 e0
    go_enter Tryz.func12, Tryz.ntmps12
    go_wp2_with fail
    refine KB.out.mono ?_
    rintro e w' ⟨rfl, rfl⟩
    go_wp2_with fail
    refine KG.out.mono ?_
    rintro e w2 ⟨vl2, vg2, rfl, r2, o2, n2⟩
    have R2 := Lib.hid r2
    have O2 := Lib.hid o2
    have N2 := Lib.hid n2
    clear r2 o2 n2
    go_wp2
    go_ret
    rw [HE.out.1, HE.out.2]
    exact ⟨vl2, vg2, rfl, R2.out, O2.out, N2.out⟩
  · have e0 : ((T.st : Int) != 0) = true := by simpa using h0
    rw [e0] at KB
    have HE : Hid (recE17 T = 11 ∧ recT17 T = T) := Lib.hid ⟨if_neg h0, if_neg h0⟩
    clear r h0 e0
    go_enter Tryz.func12, Tryz.ntmps12
    go_wp2_with fail
    refine KB.out.mono ?_
    rintro e w' ⟨rfl, rfl⟩
    go_wp2
    go_ret
    rw [HE.out.1, HE.out.2]
    exact ⟨vl, vg, rfl, R.out, Only.refl _ _, fun _ h => .inl h⟩
set_option maxRecDepth 100000 in
set_option maxHeartbeats 1000000 in
theorem release17_any (h : Int) (w : World) (r : KAt w k T s vl vg) :
    Calls Tryz.prog 15 #[.pointer (some ⟨k, 0, none⟩), .int .i64 h] w (KP17 k s (relT17 T h) vl vg (.int .i64 (relE17 T h)) w) := by
  have R := Lib.hid r
  have KB := Lib.hid (busy17_any w r)
  have c8 := r.row.cell 8
  simp only [tkC, List.getElem?_cons_zero, List.getElem?_cons_succ] at c8
  by_cases h0 : T.st = 0
  · have e0 : ((T.st : Int) != 0) = false := by rw [h0]; rfl
    rw [e0] at KB
    have KS := Lib.hid (slot15_any s T.tab h w r.tab)
    have KD := Lib.hid (drop15_any s T.tab h w r.tab)
    unfold ptr at KS KD
    have H0 := Lib.hid h0
    obtain ⟨sv, hsv⟩ : ∃ x, slotV15 T.tab h = x := ⟨_, rfl⟩
    rw [hsv] at KS
    have HSV := Lib.hid hsv
    cases hd : slotO15 T.tab h with
    | none =>
      have hde : dropE15 T.tab h = 7 := by unfold dropE15; rw [hd]
      have hdl : dropL15 T.tab h = T.tab := by unfold dropL15; rw [hd]
      rw [hde] at KD
      have HE : Hid (relE17 T h = 7 ∧ relT17 T h = T) := Lib.hid ⟨by unfold relE17; rw [if_pos H0.out, hde], by unfold relT17; rw [if_neg (by rw [hde]; omega)]⟩
      have HL := Lib.hid hdl
      clear r h0 e0 hd hde hdl hsv
      go_enter Tryz.func15, Tryz.ntmps15
      go_wp2_with fail
      refine KB.out.mono ?_
      rintro e w' ⟨rfl, rfl⟩
      go_wp2_with fail
      refine KS.out.mono ?_
      rintro e w' ⟨rfl, rfl⟩
      go_wp2_with fail
      refine KD.out.mono ?_
      rintro e w2 ⟨rfl, r2, o2⟩
      have R2 := Lib.hid (R.out.setTab o2 r2)
      have O2 := Lib.hid o2
      clear r2 o2
      go_wp2
      go_ret
      rw [HE.out.1, HE.out.2]
      have := R2.out
      rw [HL.out] at this
      exact ⟨vl, vg, rfl, this, O2.out.mono (fun _ _ h => .inr (.inl h)), fun _ h => .inl h⟩
    | some j =>
      have hde : dropE15 T.tab h = 0 := by unfold dropE15; rw [hd]
      rw [hde] at KD
      have HE : Hid (relE17 T h = 0 ∧ relT17 T h = begin17 { T with tab := dropL15 T.tab h } true sv) := Lib.hid ⟨by unfold relE17; rw [if_pos H0.out, hde], by unfold relT17; rw [if_pos ⟨H0.out, hde⟩, HSV.out]⟩
      clear r h0 e0 hd hde hsv
      go_enter Tryz.func15, Tryz.ntmps15
      go_wp2_with fail
      refine KB.out.mono ?_
      rintro e w' ⟨rfl, rfl⟩
      go_wp2_with fail
      refine KS.out.mono ?_
      rintro e w' ⟨rfl, rfl⟩
      go_wp2_with fail
      refine KD.out.mono ?_
      rintro e w2 ⟨rfl, r2, o2⟩
      have R2 := Lib.hid (R.out.setTab o2 r2)
      have O2 := Lib.hid (o2.mono (T := own17 k s vl vg) (fun _ _ h => .inr (.inl h)))
      have KG := Lib.hid (begin17_any true sv w2 R2.out)
      clear r2 o2
      go_wp2_with fail
      refine KG.out.mono ?_
      rintro e w3 ⟨vl3, vg3, rfl, r3, o3, n3⟩
      have R3 := Lib.hid r3
      have O3 := Lib.hid o3
      have N3 := Lib.hid n3
      clear r3 o3 n3
      go_wp2
      go_ret
      rw [HE.out.1, HE.out.2]
      exact KP17.trans O2.out (fun _ h => .inl h) ⟨vl3, vg3, rfl, R3.out, O3.out, N3.out⟩
  · have e0 : ((T.st : Int) != 0) = true := by simpa using h0
    rw [e0] at KB
    have HE : Hid (relE17 T h = 11 ∧ relT17 T h = T) := Lib.hid ⟨if_neg h0, if_neg (fun h => h0 h.1)⟩
    clear r h0 e0
    go_enter Tryz.func15, Tryz.ntmps15
    go_wp2_with fail
    refine KB.out.mono ?_
    rintro e w' ⟨rfl, rfl⟩
    go_wp2
    go_ret
    rw [HE.out.1, HE.out.2]
    exact ⟨vl, vg, rfl, R.out, Only.refl _ _, fun _ h => .inl h⟩
/-- What asked answers, and what it leaves. -/
def askN17 (T : Tk) (x : Int) : Bool := !T.knows || x != T.known
def askS17 (T : Tk) (x : Int) : Nat := if askN17 T x then 2 else if T.linked then (if T.rel then 10 else 6) else 5
def askT17 (T : Tk) (x : Int) : Tk := if askN17 T x then { T with known := x, knows := true } else T
set_option maxRecDepth 100000 in
set_option maxHeartbeats 1000000 in
theorem asked17_any (x : Int) (w : World) (r : KAt w k T s vl vg) :
    Calls Tryz.prog 69 #[.pointer (some ⟨k, 0, none⟩), .int .i64 x] w (KP17 k s (askT17 T x) vl vg (.int .i64 (askS17 T x : Int)) w) := by
  have R := Lib.hid r
  have c4 := r.row.cell 4
  have c5 := r.row.cell 5
  have c9 := r.row.cell 9
  have c12 := r.row.cell 12
  have f4 := r.row.soft 4
  have f5 := r.row.soft 5
  simp only [tkC, List.getElem?_cons_zero, List.getElem?_cons_succ] at c4 c5 c9 c12
  have HR1 : Hid (Row ((w.setCell ⟨k, 4, none⟩ (.int .i64 x)).setCell ⟨k, 5, none⟩ (.bool true)) k 88 (tkC { T with known := x, knows := true } s vl vg)) := Lib.hid ((r.row.put 4 (.int .i64 x)).put 5 (.bool true))
  have F1 : Hid (askN17 T x = true → ∀ W, Only (· = k) w W → Row W k 88 (tkC { T with known := x, knows := true } s vl vg) → KP17 k s (askT17 T x) vl vg (.int .i64 (askS17 T x : Int)) w (.returned (.int .i64 2)) W) := Lib.hid (fun h W ho hr => by
    unfold askT17 askS17
    rw [if_pos h, if_pos h]
    exact KP17.one R.out ho hr rfl rfl rfl)
  have F2 : Hid (askN17 T x = false → ∀ q : Nat, (if T.linked then (if T.rel then 10 else 6) else 5) = q → KP17 k s (askT17 T x) vl vg (.int .i64 (askS17 T x : Int)) w (.returned (.int .i64 (q : Int))) w) := Lib.hid (fun h q hq => by
    unfold askT17 askS17
    rw [h, if_neg (by decide), if_neg (by decide), hq]
    exact KP17.one R.out (Only.refl _ _) R.out.row rfl rfl rfl)
  clear r
  cases hk : T.knows with
  | false =>
    rw [hk] at c5
    have HN : Hid (askN17 T x = true) := Lib.hid (by unfold askN17; rw [hk]; rfl)
    clear hk
    go_enter Tryz.func69, Tryz.ntmps69
    go_wp2
    go_ret
    exact F1.out HN.out _ ((only_put17 w k 4 _).put17 5 _) HR1.out
  | true =>
    rw [hk] at c5
    by_cases hx : x = T.known
    · have HN : Hid (askN17 T x = false) := Lib.hid (by unfold askN17; rw [hk]; simp [hx])
      have e0 : (x != T.known) = false := by simp [hx]
      clear hk hx
      cases hl : T.linked with
      | false =>
        rw [hl] at c9
        have HL := Lib.hid hl; clear hl
        go_enter Tryz.func69, Tryz.ntmps69
        go_wp2
        go_ret
        exact F2.out HN.out 5 (by rw [HL.out]; rfl)
      | true =>
        rw [hl] at c9
        cases hr : T.rel with
        | false =>
          rw [hr] at c12
          have HL := Lib.hid hl; clear hl
          have HR := Lib.hid hr; clear hr
          go_enter Tryz.func69, Tryz.ntmps69
          go_wp2
          go_ret
          exact F2.out HN.out 6 (by rw [HL.out, HR.out]; rfl)
        | true =>
          rw [hr] at c12
          have HL := Lib.hid hl; clear hl
          have HR := Lib.hid hr; clear hr
          go_enter Tryz.func69, Tryz.ntmps69
          go_wp2
          go_ret
          exact F2.out HN.out 10 (by rw [HL.out, HR.out]; rfl)
    · have HN : Hid (askN17 T x = true) := Lib.hid (by unfold askN17; rw [hk]; simpa using hx)
      have e0 : (x != T.known) = true := by simpa using hx
      clear hk hx
      go_enter Tryz.func69, Tryz.ntmps69
      go_wp2
      go_ret
      exact F1.out HN.out _ ((only_put17 w k 4 _).put17 5 _) HR1.out
/-- What looked answers. -/
def looE17 (T : Tk) (n : Int) : Int := if n = 0 then 6 else if (T.R : Int) - ((hs17 T).length : Int) < n then 10 else 0
set_option maxRecDepth 100000 in
set_option maxHeartbeats 1000000 in
theorem looked17_any (n : Int) (w : World) (r : KAt w k T s vl vg) (hR : T.R ≤ 64) (hh : (hs17 T).length ≤ 64) :
    Calls Tryz.prog 73 #[.pointer (some ⟨k, 0, none⟩), .int .i64 n] w fun e w' => e = .returned (.int .i64 (looE17 T n)) ∧ Below w.heap.size w w' := by
  by_cases h0 : n = 0
  · have e0 : (n == 0) = true := by simpa using h0
    have HE : Hid (looE17 T n = 6) := Lib.hid (if_pos h0)
    clear h0 r
    go_enter Tryz.func73, Tryz.ntmps73
    go_wp2
    go_ret
    rw [HE.out]
    exact ⟨rfl, Below.refl _ _⟩
  · have e0 : (n == 0) = false := by simpa using h0
    have c1 := r.row.cell 1
    simp only [tkC, List.getElem?_cons_zero, List.getElem?_cons_succ] at c1
    have KLT := r.row.lt
    have R := Lib.hid r
    obtain ⟨q, hq⟩ : ∃ q, (hs17 T).length = q := ⟨_, rfl⟩
    have KC := Lib.hid (fun W (hb : Below w.heap.size w W) => (held17_any W (r.below hb)).mono (fun e w' (h : OwnP15 (hs17 T) W e w') => show ∃ A c, e = .returned (.slice A q c) ∧ Below w.heap.size w w' from by
      obtain ⟨v', h1, h2, h3⟩ := h
      obtain ⟨A, c, rfl⟩ := own15_is h2
      exact ⟨A, c, by rw [h1, hq], below_on hb h3⟩))
    have hS0 : w.drew.cell? ⟨k, 1, none⟩ = some (.int .i64 (T.R : Int)) := c1
    have hbd : Below w.heap.size w w.drew := (Below.refl _ _).drew
    obtain ⟨m, hm⟩ : ∃ m, T.R = m := ⟨_, rfl⟩
    rw [hq] at hh
    have HQ := Lib.hid (show (hs17 T).length = q ∧ T.R = m from ⟨hq, hm⟩)
    rw [hm] at c1 hS0 hR
    have hw : IntKind.i64.wrap ((m : Int) - (q : Int)) = (m : Int) - (q : Int) := IntWalk.i64_in _ (by omega)
    obtain ⟨d, hd⟩ : ∃ d, (m : Int) - (q : Int) = d := ⟨_, rfl⟩
    have HD := Lib.hid hd
    rw [hd] at hw
    by_cases h1 : d < n
    · have HE : Hid (looE17 T n = 10) := Lib.hid (by unfold looE17; rw [if_neg h0, HQ.out.1, HQ.out.2, HD.out, if_pos h1])
      have e1 : decide (d < n) = true := by simpa using h1
      clear h0 h1 r hq hm
      go_enter Tryz.func73, Tryz.ntmps73
      go_wp2
      go_region_held3 (fun W => W.cell? ⟨k, 1, none⟩ = some (.int .i64 (m : Int)))
        (first | exact hS0 | exact hS2 | go_keep)
        (first
          | (go_at_call 50; refine (KC.out _ (by first | assumption)).mono ?_; rintro e w2 ⟨A2, c2, rfl, b2⟩; have hS2 : w2.cell? ⟨k, 1, none⟩ = some (.int .i64 (m : Int)) := (b2.cell (p := ⟨k, 1, none⟩) KLT).trans c1))
      all_goals
        go_wp2
        go_ret
        rw [HE.out]
        first
          | exact ⟨rfl, b2⟩
          | exact ⟨rfl, b2.drew⟩
    · have HE : Hid (looE17 T n = 0) := Lib.hid (by unfold looE17; rw [if_neg h0, HQ.out.1, HQ.out.2, HD.out, if_neg h1])
      have e1 : decide (d < n) = false := by simpa using h1
      clear h0 h1 r hq hm
      go_enter Tryz.func73, Tryz.ntmps73
      go_wp2
      go_region_held3 (fun W => W.cell? ⟨k, 1, none⟩ = some (.int .i64 (m : Int)))
        (first | exact hS0 | exact hS2 | go_keep)
        (first
          | (go_at_call 50; refine (KC.out _ (by first | assumption)).mono ?_; rintro e w2 ⟨A2, c2, rfl, b2⟩; have hS2 : w2.cell? ⟨k, 1, none⟩ = some (.int .i64 (m : Int)) := (b2.cell (p := ⟨k, 1, none⟩) KLT).trans c1))
      all_goals
        go_wp2
        go_ret
        rw [HE.out]
        first
          | exact ⟨rfl, b2⟩
          | exact ⟨rfl, b2.drew⟩
/-- What judge answers, and what it leaves. -/
def judE17 (T : Tk) (x : Int) : Int := if x = T.known then T.res else 8
def judT17 (T : Tk) (x : Int) : Tk :=
  if x = T.known ∧ T.res = 0 then (if T.rel then { T with used := addW T.used 1 } else { T with head := addW T.head 1, tab := giveL15 T.tab T.slot, gl := T.load, gh := giveV15 T.tab T.slot }) else T
theorem KW17.one {T' : Tk} {ans : Value} {w w' : World} (r : KAt w k T s vl vg) (ho : Only (· = k) w w') (hr : Row w' k 88 (tkC T' s vl vg)) (ht : T'.tab = T.tab) (hl : T'.load = T.load) (hg : T'.gl = T.gl) : KW17 k s T' vl vg ans w (.returned ans) w' :=
  (KP17.one r ho hr ht hl hg).toW
set_option maxRecDepth 100000 in
set_option maxHeartbeats 2000000 in
theorem judge17_any (x : Int) (w : World) (r : KAt w k T s vl vg) :
    Calls Tryz.prog 76 #[.pointer (some ⟨k, 0, none⟩), .int .i64 x] w (KW17 k s (judT17 T x) vl vg (.int .i64 (judE17 T x)) w) := by
  have R := Lib.hid r
  have c4 := r.row.cell 4
  have c8 := r.row.cell 8
  have c10 := r.row.cell 10
  have c11 := r.row.cell 11
  have c12 := r.row.cell 12
  have c13 := r.row.cell 13
  have c16 := r.row.cell 16
  have f10 := r.row.soft 10
  have f11 := r.row.soft 11
  simp only [tkC, List.getElem?_cons_zero, List.getElem?_cons_succ] at c4 c8 c10 c11 c12 c13 c16
  have AD := Lib.hid (fun W n => add_any n 1 W)
  by_cases hx : x = T.known
  · have e0 : (x != T.known) = false := by simp [hx]
    by_cases h0 : T.res = 0
    · have hE : judE17 T x = 0 := by unfold judE17; rw [if_pos hx, h0]
      rw [h0] at c16
      cases hr : T.rel with
      | true =>
        have HE : Hid (judE17 T x = 0 ∧ judT17 T x = { T with used := addW T.used 1 }) := Lib.hid ⟨hE, by unfold judT17; rw [if_pos ⟨hx, h0⟩, hr]; rfl⟩
        have HR1 : Hid (Row (w.setCell ⟨k, 11, none⟩ (.int .i64 (addW T.used 1))) k 88 (tkC { T with used := addW T.used 1 } s vl vg)) := Lib.hid (r.row.put 11 (.int .i64 (addW T.used 1)))
        rw [hr] at c12
        clear r hx h0 hE hr
        go_enter Tryz.func76, Tryz.ntmps76
        go_wp2_with (go_at_call 79; refine (AD.out _ _).mono ?_; rintro e w' ⟨rfl, rfl⟩)
        go_ret
        rw [HE.out.1, HE.out.2]
        exact KW17.one R.out (only_put17 _ _ _ _) HR1.out rfl rfl rfl
      | false =>
        have HE : Hid (judE17 T x = 0 ∧ judT17 T x = { T with head := addW T.head 1, tab := giveL15 T.tab T.slot, gl := T.load, gh := giveV15 T.tab T.slot }) := Lib.hid ⟨hE, by unfold judT17; rw [if_pos ⟨hx, h0⟩, hr]; rfl⟩
        rw [hr] at c12
        obtain ⟨w1, hw1⟩ : ∃ w1, w1 = w.setCell ⟨k, 10, none⟩ (.int .i64 (addW T.head 1)) := ⟨_, rfl⟩
        have o1 : Only (· = k) w w1 := by rw [hw1]; exact only_put17 _ _ _ _
        have r1 : KAt w1 k { T with head := addW T.head 1 } s vl vg := r.turn o1 (by rw [hw1]; exact r.row.put 10 (.int .i64 (addW T.head 1))) rfl rfl rfl
        have R1 := Lib.hid r1
        have O1 := Lib.hid (o1.mono (T := own17 k s vl vg) (fun _ _ h => .inl h))
        have d8 := r1.row.cell 8
        have d13 := r1.row.cell 13
        simp only [tkC, List.getElem?_cons_zero, List.getElem?_cons_succ] at d8 d13
        have hS0 : w1.drew.cell? ⟨k, 8, none⟩ = some (.pointer (some ⟨s, 0, none⟩)) ∧ w1.drew.cell? ⟨k, 13, none⟩ = some (.int .i64 T.slot) := ⟨d8, d13⟩
        have KG := Lib.hid (fun W (hb : Below w1.heap.size w1 W) => (give15_any s T.tab T.slot W ((r1.below hb).tab)).mono (fun e w' (h : GrP s (giveL15 T.tab T.slot) (.tuple #[.int .i64 (giveV15 T.tab T.slot), .bool (giveB15 T.tab T.slot)]) W e w') => show e = .returned (.tuple #[.int .i64 (giveV15 T.tab T.slot), .bool (giveB15 T.tab T.slot)]) ∧ GrAt w' s (giveL15 T.tab T.slot) ∧ Only (· = s) w1 w' from ⟨h.1, h.2.1, (Only.of_below hb _).trans h.2.2⟩))
        unfold ptr at KG
        have hbd : Below w1.heap.size w1 w1.drew := (Below.refl _ _).drew
        have hsk := r1.sk
        have SB : Hid (∀ W, Only (· = s) w1 W → W.cell? ⟨k, 8, none⟩ = some (.pointer (some ⟨s, 0, none⟩)) ∧ W.cell? ⟨k, 13, none⟩ = some (.int .i64 T.slot)) := Lib.hid (fun W ho => by
          have q := r1.row.only ho (fun e => hsk e.symm)
          have q8 := q.cell 8
          have q13 := q.cell 13
          simp only [tkC, List.getElem?_cons_zero, List.getElem?_cons_succ] at q8 q13
          exact ⟨q8, q13⟩)
        obtain ⟨gv, hgv⟩ : ∃ x, giveV15 T.tab T.slot = x := ⟨_, rfl⟩
        obtain ⟨gb, hgb⟩ : ∃ x, giveB15 T.tab T.slot = x := ⟨_, rfl⟩
        obtain ⟨gl, hgl⟩ : ∃ x, giveL15 T.tab T.slot = x := ⟨_, rfl⟩
        rw [hgv, hgb, hgl] at KG
        rw [hgv, hgl] at HE
        clear r hx h0 hE hr o1 r1 hgv hgb hgl
        go_enter Tryz.func76, Tryz.ntmps76
        go_wp2_with (go_at_call 79; refine (AD.out _ _).mono ?_; rintro e w' ⟨rfl, rfl⟩)
        rw [← hw1]
        clear hw1
        go_region_held3 (fun W => W.cell? ⟨k, 8, none⟩ = some (.pointer (some ⟨s, 0, none⟩)) ∧ W.cell? ⟨k, 13, none⟩ = some (.int .i64 T.slot))
          (first | exact hS0 | exact hS2 | go_keep)
          (first
            | (go_at_call 85; refine (KG.out _ (by first | assumption)).mono ?_; rintro e w2 ⟨rfl, r2, o2⟩; have hS2 := SB.out _ o2))
        all_goals
          have R2 := Lib.hid (R1.out.setTab o2 r2)
          have O2 := Lib.hid o2
          have y15 := R2.out.row.cell 15
          have y17 := R2.out.row.cell 17
          have y18 := R2.out.row.cell 18
          have g17 := R2.out.row.soft 17
          have g18 := R2.out.row.soft 18
          simp only [tkC, List.getElem?_cons_zero, List.getElem?_cons_succ] at y15 y17 y18
          obtain ⟨A, c, hvl⟩ := own_open14 R2.out.load
          rw [hvl] at y15
          have HVL := Lib.hid hvl
          clear hvl r2 o2
          go_wp2
          go_ret
          rw [HE.out.1, HE.out.2]
          obtain ⟨w4, hw4⟩ : ∃ w4, w4 = (w2.setCell ⟨k, 17, none⟩ (.slice A T.load.length c)).setCell ⟨k, 18, none⟩ (.int .i64 gv) := ⟨_, rfl⟩
          have ho : Only (· = k) w2 w4 := by
            rw [hw4]
            exact (only_put17 w2 k 17 _).put17 18 _
          have hr : Row w4 k 88 (tkC { T with head := addW T.head 1, tab := gl, gl := T.load, gh := gv } s vl vl) := by
            rw [hw4, ← show vl = .slice A T.load.length c from HVL.out]
            exact (R2.out.row.put 17 vl).put 18 (.int .i64 gv)
          have hl4 := own_quiet R2.out.load (w' := w4) (fun x hx => ho.block x (R2.out.load.lt x hx).2 (fun e => R2.out.lk (by rw [hx, e])))
          have hK : KAtW w4 k { T with head := addW T.head 1, tab := gl, gl := T.load, gh := gv } s vl vl := ⟨hr, R2.out.tab.only ho R2.out.sk, hl4, hl4⟩
          have hO := (O1.out.trans (O2.out.mono (T := own17 k s vl vg) (fun _ _ h => .inr (.inl h)))).trans (ho.mono (fun _ _ h => .inl h))
          have hN : ∀ x, own17 k s vl vl x → own17 k s vl vg x ∨ w.heap.size ≤ x := fun x h => by
            rcases h with h | h | h | h
            · exact .inl (.inl h)
            · exact .inl (.inr (.inl h))
            · exact .inl (.inr (.inr (.inl h)))
            · exact .inl (.inr (.inr (.inl h)))
          rw [← hw4]
          exact ⟨vl, vl, rfl, hK, hO, hN⟩
    · have HE : Hid (judE17 T x = T.res ∧ judT17 T x = T) := Lib.hid ⟨by unfold judE17; rw [if_pos hx], by unfold judT17; rw [if_neg (fun h => h0 h.2)]⟩
      have e1 : (T.res != 0) = true := by simpa using h0
      clear r hx h0
      go_enter Tryz.func76, Tryz.ntmps76
      go_wp2
      go_ret
      rw [HE.out.1, HE.out.2]
      exact KW17.one R.out (Only.refl _ _) R.out.row rfl rfl rfl
  · have e0 : (x != T.known) = true := by simpa using hx
    have HE : Hid (judE17 T x = 8 ∧ judT17 T x = T) := Lib.hid ⟨by unfold judE17; rw [if_neg hx], by unfold judT17; rw [if_neg (fun h => hx h.1)]⟩
    clear r hx
    go_enter Tryz.func76, Tryz.ntmps76
    go_wp2
    go_ret
    rw [HE.out.1, HE.out.2]
    exact KW17.one R.out (Only.refl _ _) R.out.row rfl rfl rfl
end
end

end Go.Proofs.YtiofipofbeodpaaGreatDoor
