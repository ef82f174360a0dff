/-
  Layer 16 (giver): New.
  Conditions: those that each theorem states.
-/
import Derived.Test.YtgdbaaoifnedbaaDoorGv3
import Derived.Deep.RegionHeld3
namespace Go.Proofs.YtgdbaaoifnedbaaDoor
open Go.ChangeShapes Go.WideShapes Go.ChangeAt Go.RowKit

/-- There is such a giver. -/
def ok16 (B R self peer own : Int) : Prop := okRing R ∧ (0 ≤ B ∧ B < 65536) ∧ (0 ≤ self ∧ self < 8) ∧ (0 ≤ peer ∧ peer < 8) ∧ self ≠ peer ∧ (0 ≤ own ∧ own < 65536)
instance (B R self peer own : Int) : Decidable (ok16 B R self peer own) := by unfold ok16; infer_instance

/-- A new giver. -/
def new16 (B : Int) (R : Nat) (peer own : Int) : Gv := { B := B, R := R, peer := peer, own := own, known := 0, knows := own == 0, st := 0, ins := false, linked := false, free := upto16 R, out := [], next := 0, tail := 0, load := [], sto := 0, ret := 0, res := 0 }

/-- What New leaves. -/
def Made16 (G : Gv) (w : World) (e : Ending) (w' : World) : Prop := ∃ g vf vo vl, e = .returned (ptr g) ∧ GAt w' g G vf vo vl ∧ (∀ x, own16 g vf vo vl x → w.heap.size ≤ x) ∧ Below w.heap.size w w'

section
variable {B R self peer own : Int}

set_option maxRecDepth 100000 in
set_option maxHeartbeats 1000000 in
theorem new16_no0 (h0 : ¬ okRing R) (w : World) :
    Calls Tryd.prog 56 #[plV B R, .int .i64 self, .int .i64 peer, .int .i64 own] w fun e w' => e = .returned (.pointer none) ∧ Below w.heap.size w w' := by
  have SZ := Lib.hid (show (sizeP R) = 0 from if_neg h0)
  clear h0
  unfold plV
  go_enter Tryd.func56, Tryd.ntmps56
  go_wp2_with fail
  refine (size13_any _ _).mono ?_
  rintro e w' ⟨rfl, rfl⟩
  rw [SZ.out]
  go_wp2
  go_ret
  exact ⟨rfl, below_al _ _⟩

set_option maxRecDepth 100000 in
set_option maxHeartbeats 1000000 in
theorem new16_no1 (h0 : okRing R) (h1 : ¬ (0 ≤ B ∧ B < 65536)) (w : World) :
    Calls Tryd.prog 56 #[plV B R, .int .i64 self, .int .i64 peer, .int .i64 own] w fun e w' => e = .returned (.pointer none) ∧ Below w.heap.size w w' := by
  have hR2 : (4 + 11 * R == 0) = false := by have := h0.bd; simp; omega
  have SZ := Lib.hid (show (sizeP R) = 4 + 11 * R from if_pos h0)
  clear h0
  have D1 := Lib.hid (decide_eq_false h1)
  clear h1
  unfold plV
  go_enter Tryd.func56, Tryd.ntmps56
  go_wp2_with fail
  refine (size13_any _ _).mono ?_
  rintro e w' ⟨rfl, rfl⟩
  rw [SZ.out]
  go_wp2_with fail
  refine (below16_any _ _ _).mono ?_
  rintro e w' ⟨rfl, rfl⟩
  rw [D1.out]
  go_wp2
  go_ret
  exact ⟨rfl, below_al _ _⟩

set_option maxRecDepth 100000 in
set_option maxHeartbeats 1000000 in
theorem new16_no2 (h0 : okRing R) (h1 : 0 ≤ B ∧ B < 65536) (h2 : ¬ (0 ≤ self ∧ self < 8)) (w : World) :
    Calls Tryd.prog 56 #[plV B R, .int .i64 self, .int .i64 peer, .int .i64 own] w fun e w' => e = .returned (.pointer none) ∧ Below w.heap.size w w' := by
  have hR2 : (4 + 11 * R == 0) = false := by have := h0.bd; simp; omega
  have SZ := Lib.hid (show (sizeP R) = 4 + 11 * R from if_pos h0)
  clear h0
  have D1 := Lib.hid (decide_eq_true h1)
  clear h1
  have D2 := Lib.hid (decide_eq_false h2)
  clear h2
  unfold plV
  go_enter Tryd.func56, Tryd.ntmps56
  go_wp2_with fail
  refine (size13_any _ _).mono ?_
  rintro e w' ⟨rfl, rfl⟩
  rw [SZ.out]
  go_wp2_with fail
  refine (below16_any _ _ _).mono ?_
  rintro e w' ⟨rfl, rfl⟩
  rw [D1.out]
  go_wp2_with fail
  refine (below16_any _ _ _).mono ?_
  rintro e w' ⟨rfl, rfl⟩
  rw [D2.out]
  go_wp2
  go_ret
  exact ⟨rfl, below_al _ _⟩

set_option maxRecDepth 100000 in
set_option maxHeartbeats 1000000 in
theorem new16_no3 (h0 : okRing R) (h1 : 0 ≤ B ∧ B < 65536) (h2 : 0 ≤ self ∧ self < 8) (h3 : ¬ (0 ≤ peer ∧ peer < 8)) (w : World) :
    Calls Tryd.prog 56 #[plV B R, .int .i64 self, .int .i64 peer, .int .i64 own] w fun e w' => e = .returned (.pointer none) ∧ Below w.heap.size w w' := by
  have hR2 : (4 + 11 * R == 0) = false := by have := h0.bd; simp; omega
  have SZ := Lib.hid (show (sizeP R) = 4 + 11 * R from if_pos h0)
  clear h0
  have D1 := Lib.hid (decide_eq_true h1)
  clear h1
  have D2 := Lib.hid (decide_eq_true h2)
  clear h2
  have D3 := Lib.hid (decide_eq_false h3)
  clear h3
  unfold plV
  go_enter Tryd.func56, Tryd.ntmps56
  go_wp2_with fail
  refine (size13_any _ _).mono ?_
  rintro e w' ⟨rfl, rfl⟩
  rw [SZ.out]
  go_wp2_with fail
  refine (below16_any _ _ _).mono ?_
  rintro e w' ⟨rfl, rfl⟩
  rw [D1.out]
  go_wp2_with fail
  refine (below16_any _ _ _).mono ?_
  rintro e w' ⟨rfl, rfl⟩
  rw [D2.out]
  go_wp2_with fail
  refine (below16_any _ _ _).mono ?_
  rintro e w' ⟨rfl, rfl⟩
  rw [D3.out]
  go_wp2
  go_ret
  exact ⟨rfl, below_al _ _⟩

set_option maxRecDepth 100000 in
set_option maxHeartbeats 1000000 in
theorem new16_no4 (h0 : okRing R) (h1 : 0 ≤ B ∧ B < 65536) (h2 : 0 ≤ self ∧ self < 8) (h3 : 0 ≤ peer ∧ peer < 8) (h4 : self = peer) (w : World) :
    Calls Tryd.prog 56 #[plV B R, .int .i64 self, .int .i64 peer, .int .i64 own] w fun e w' => e = .returned (.pointer none) ∧ Below w.heap.size w w' := by
  have hR2 : (4 + 11 * R == 0) = false := by have := h0.bd; simp; omega
  have SZ := Lib.hid (show (sizeP R) = 4 + 11 * R from if_pos h0)
  clear h0
  have D1 := Lib.hid (decide_eq_true h1)
  clear h1
  have D2 := Lib.hid (decide_eq_true h2)
  clear h2
  have D3 := Lib.hid (decide_eq_true h3)
  clear h3
  have hsp : (self == peer) = true := by rw [h4]; simp
  clear h4
  unfold plV
  go_enter Tryd.func56, Tryd.ntmps56
  go_wp2_with fail
  refine (size13_any _ _).mono ?_
  rintro e w' ⟨rfl, rfl⟩
  rw [SZ.out]
  go_wp2_with fail
  refine (below16_any _ _ _).mono ?_
  rintro e w' ⟨rfl, rfl⟩
  rw [D1.out]
  go_wp2_with fail
  refine (below16_any _ _ _).mono ?_
  rintro e w' ⟨rfl, rfl⟩
  rw [D2.out]
  go_wp2_with fail
  refine (below16_any _ _ _).mono ?_
  rintro e w' ⟨rfl, rfl⟩
  rw [D3.out]
  go_wp2
  go_ret
  exact ⟨rfl, below_al _ _⟩

set_option maxRecDepth 100000 in
set_option maxHeartbeats 1000000 in
theorem new16_no5 (h0 : okRing R) (h1 : 0 ≤ B ∧ B < 65536) (h2 : 0 ≤ self ∧ self < 8) (h3 : 0 ≤ peer ∧ peer < 8) (h4 : self ≠ peer) (h5 : ¬ (0 ≤ own ∧ own < 65536)) (w : World) :
    Calls Tryd.prog 56 #[plV B R, .int .i64 self, .int .i64 peer, .int .i64 own] w fun e w' => e = .returned (.pointer none) ∧ Below w.heap.size w w' := by
  have hR2 : (4 + 11 * R == 0) = false := by have := h0.bd; simp; omega
  have SZ := Lib.hid (show (sizeP R) = 4 + 11 * R from if_pos h0)
  clear h0
  have D1 := Lib.hid (decide_eq_true h1)
  clear h1
  have D2 := Lib.hid (decide_eq_true h2)
  clear h2
  have D3 := Lib.hid (decide_eq_true h3)
  clear h3
  have hsp : (self == peer) = false := by simpa using h4
  clear h4
  have D5 := Lib.hid (decide_eq_false h5)
  clear h5
  unfold plV
  go_enter Tryd.func56, Tryd.ntmps56
  go_wp2_with fail
  refine (size13_any _ _).mono ?_
  rintro e w' ⟨rfl, rfl⟩
  rw [SZ.out]
  go_wp2_with fail
  refine (below16_any _ _ _).mono ?_
  rintro e w' ⟨rfl, rfl⟩
  rw [D1.out]
  go_wp2_with fail
  refine (below16_any _ _ _).mono ?_
  rintro e w' ⟨rfl, rfl⟩
  rw [D2.out]
  go_wp2_with fail
  refine (below16_any _ _ _).mono ?_
  rintro e w' ⟨rfl, rfl⟩
  rw [D3.out]
  go_wp2_with fail
  refine (below16_any _ _ _).mono ?_
  rintro e w' ⟨rfl, rfl⟩
  rw [D5.out]
  go_wp2
  go_ret
  exact ⟨rfl, below_al _ _⟩

theorem new16_no (h : ¬ ok16 B R self peer own) (w : World) :
    Calls Tryd.prog 56 #[plV B R, .int .i64 self, .int .i64 peer, .int .i64 own] w fun e w' => e = .returned (.pointer none) ∧ Below w.heap.size w w' := by
  by_cases h0 : okRing R
  · by_cases h1 : 0 ≤ B ∧ B < 65536
    · by_cases h2 : 0 ≤ self ∧ self < 8
      · by_cases h3 : 0 ≤ peer ∧ peer < 8
        · by_cases h4 : self = peer
          · exact new16_no4 h0 h1 h2 h3 h4 w
          · exact new16_no5 h0 h1 h2 h3 h4 (fun h5 => h ⟨h0, h1, h2, h3, h4, h5⟩) w
        · exact new16_no3 h0 h1 h2 h3 w
      · exact new16_no2 h0 h1 h2 w
    · exact new16_no1 h0 h1 w
  · exact new16_no0 h0 w

set_option maxRecDepth 100000 in
set_option maxHeartbeats 2000000 in
theorem new16_yes (r : Nat) (h : ok16 B (r : Int) self peer own) (w : World) :
    Calls Tryd.prog 56 #[plV B (r : Int), .int .i64 self, .int .i64 peer, .int .i64 own] w (Made16 (new16 B r peer own) w) := by
  obtain ⟨h0, h1, h2, h3, h4, h5⟩ := h
  have hr64 : r ≤ 64 := by have := h0.bd; omega
  have hR2 : (4 + 11 * (r : Int) == 0) = false := by simp; omega
  have SZ := Lib.hid (show (sizeP (r : Int)) = 4 + 11 * (r : Int) from if_pos h0)
  have hsp : (self == peer) = false := by simpa using h4
  have D1 := Lib.hid (decide_eq_true h1)
  have D2 := Lib.hid (decide_eq_true h2)
  have D3 := Lib.hid (decide_eq_true h3)
  have D5 := Lib.hid (decide_eq_true h5)
  have UN := Lib.hid (fun W => unlinked16_any r hr64 W)
  clear h0 h1 h2 h3 h4 h5
  unfold plV
  obtain ⟨w1, hw1⟩ : ∃ w1, w1 = w.alloc (.cells #[.int .i64 B, .int .i64 (r : Int)] 23) := ⟨_, rfl⟩
  have R0 : Hid (Row w1 w.heap.size 23 [.int .i64 B, .int .i64 (r : Int)]) := Lib.hid (by rw [hw1]; exact Row.new w _ #[.int .i64 B, .int .i64 (r : Int)])
  have B1 : Hid (Below w.heap.size w w1) := Lib.hid (by rw [hw1]; exact below_al _ _)
  go_enter Tryd.func56, Tryd.ntmps56
  go_wp2_with fail
  refine (size13_any _ _).mono ?_
  rintro e w' ⟨rfl, rfl⟩
  rw [SZ.out]
  go_wp2_with fail
  refine (below16_any _ _ _).mono ?_
  rintro e w' ⟨rfl, rfl⟩
  rw [D1.out]
  go_wp2_with fail
  refine (below16_any _ _ _).mono ?_
  rintro e w' ⟨rfl, rfl⟩
  rw [D2.out]
  go_wp2_with fail
  refine (below16_any _ _ _).mono ?_
  rintro e w' ⟨rfl, rfl⟩
  rw [D3.out]
  go_wp2_with fail
  refine (below16_any _ _ _).mono ?_
  rintro e w' ⟨rfl, rfl⟩
  rw [D5.out]
  go_wp2
  rw [← hw1]
  clear hw1
  have HT : Hid (∀ W, Below w1.heap.size w1 W → W.cell? ⟨w.heap.size, 0, none⟩ = some (.int .i64 B) ∧ W.cell? ⟨w.heap.size, 1, none⟩ = some (.int .i64 (r : Int)) ∧ Below w1.heap.size w1 W) := Lib.hid (fun W hb => ⟨(R0.out.below hb).cell 0, (R0.out.below hb).cell 1, hb⟩)
  generalize hP : w.heap.size = P at *
  go_region_held3 (fun W => W.cell? ⟨P, 0, none⟩ = some (.int .i64 B) ∧ W.cell? ⟨P, 1, none⟩ = some (.int .i64 (r : Int)) ∧ Below w1.heap.size w1 W)
    (first | exact HT.out _ (Below.refl _ _).drew | exact HT.out _ hb6 | exact HT.out _ (hb7 _) | go_keep)
    (first
      | (go_at_call 82; refine (UN.out _).mono ?_; rintro e w5 ⟨f, rfl, rf, hf, hb5⟩; have hb6 : Below w1.heap.size w1 w5 := below_on (Below.refl _ _).drew hb5; have hb7 := fun o => hb6.alloc hb6.size o))
  go_wp2
  go_ret
  subst hP
  have hs1 := B1.out.size
  have hs2 := hb6.size
  have hfl := rf.lt
  have hf' : w1.heap.size ≤ f := hf
  refine ⟨w5.heap.size, .slice (some ⟨f, 0, none⟩) r r, .slice none 0 0, .slice none 0 0, rfl, ⟨Row.new w5 99 _, ?_, World.ownsRow_nil _ _ _ _, World.ownsRow_nil _ _ _ _, (fun _ _ h => by cases h), (fun _ _ h => by cases h), (fun _ h => by cases h)⟩, fun x hx => ?_, (below_on B1.out hb6).trans ((below_al w5 _).mono (Nat.le_trans hs1 hs2))⟩
  · have hl := upto16_len r
    refine ⟨by show (ints (upto16 r)).length = (upto16 r).length * 1; rw [ints_len, Nat.mul_one], .inr ⟨f, r, (ints (upto16 r)).toArray, by show _ = Value.slice _ (upto16 r).length _; rw [hl], Nat.zero_le _, rf.below (below_al _ _), by show (upto16 r).length ≤ r; omega, by unfold maxLen; omega, by simp [ints_len, hl], ?_⟩⟩
    show List.take ((upto16 r).length * 1) (ints (upto16 r)) = ints (upto16 r)
    rw [List.take_of_length_le (by rw [ints_len]; omega)]
  · rcases hx with rfl | h | h | h
    · omega
    · simp only [Value.ownBlock, Option.some.injEq] at h
      omega
    · cases h
    · cases h
end

#print axioms new16_no
#print axioms new16_yes
end Go.Proofs.YtgdbaaoifnedbaaDoor
