/-
  Layer 13 (plot): contracts of start, has, At, Of (program).
  Conditions: those that each theorem states.
-/
import Derived.Test.YtgdbaaoifnedbaaDoorPl
import Derived.Test.YtgdbaaoifnedbaaDoorTab
import Derived.Deep.RegionHeld3
namespace Go.Proofs.YtgdbaaoifnedbaaDoor
open Go.ChangeShapes Go.WideShapes Go.ChangeAt Go.RowKit

theorem since13 {f : Nat} {args : Array Value} {v : Value} (h : ∀ W, Calls Tryd.prog f args W fun e w' => e = .returned v ∧ Below W.heap.size W w') (w0 W : World) (hb : Below w0.heap.size w0 W) :
    Calls Tryd.prog f args W fun e w' => e = .returned v ∧ Below w0.heap.size w0 w' :=
  (h W).mono fun _ _ ⟨he, hb'⟩ => ⟨he, below_on hb hb'⟩

theorem since13T {f : Nat} {args : Array Value} {v : Value} (h : ∀ W, TabAt W → Calls Tryd.prog f args W fun e w' => e = .returned v ∧ Below W.heap.size W w') (w0 W : World) (h0 : TabAt w0) (hb : Below w0.heap.size w0 W) :
    Calls Tryd.prog f args W fun e w' => e = .returned v ∧ Below w0.heap.size w0 w' :=
  (h W (h0.below hb)).mono fun _ _ ⟨he, hb'⟩ => ⟨he, below_on hb hb'⟩

theorem TabAt.row {w : World} (h : TabAt w) (k : Nat) (hk : k < 9) :
    w.cell? ⟨0, k * 4, none⟩ = some (.int .i64 (tabRow k).1) ∧ w.cell? ⟨0, k * 4 + 1, none⟩ = some (.int .i64 (tabRow k).2.1) ∧
    w.cell? ⟨0, k * 4 + 2, none⟩ = some (.int .i64 (tabRow k).2.2.1) ∧ w.cell? ⟨0, k * 4 + 3, none⟩ = some (.bool (tabRow k).2.2.2) := by
  rw [Nat.mul_comm k 4]
  exact h k hk

/-- The number of a field as a natural number. -/
theorem field_nat {f : Int} (h : 1 ≤ f ∧ f ≤ 8) : ∃ k : Nat, f = (k : Int) ∧ 1 ≤ k ∧ k ≤ 8 := ⟨f.toNat, by omega, by omega, by omega⟩

theorem tabRow_bd {k : Nat} (h : 1 ≤ k ∧ k ≤ 8) : 0 ≤ (tabRow k).1 ∧ (tabRow k).1 ≤ 4 ∧ 0 ≤ (tabRow k).2.1 ∧ (tabRow k).2.1 ≤ 3 ∧ 1 ≤ (tabRow k).2.2.1 ∧ (tabRow k).2.2.1 ≤ 8 := by
  have : k = 1 ∨ k = 2 ∨ k = 3 ∨ k = 4 ∨ k = 5 ∨ k = 6 ∨ k = 7 ∨ k = 8 := by omega
  rcases this with rfl | rfl | rfl | rfl | rfl | rfl | rfl | rfl <;> simp [tabRow]

/-- The field x has a word at the slot and the index. -/
def has13P (S wd s i : Int) : Prop := (0 ≤ s ∧ s < S) ∧ (0 ≤ i ∧ i < wd)

instance (S wd s i : Int) : Decidable (has13P S wd s i) := by unfold has13P; infer_instance

def slotsP (sl : Bool) (R : Int) : Int := if sl = true then R else 1

def exV (a b wd : Int) (sl : Bool) : Value := .agg #[.int .i64 a, .int .i64 b, .int .i64 wd, .bool sl]

set_option maxRecDepth 100000 in
set_option maxHeartbeats 400000 in
theorem start13_any (a b wd R m : Int) (sl : Bool) (hm : b * R = m) (ha : 0 ≤ a ∧ a ≤ 100) (hmb : 0 ≤ m ∧ m ≤ 100000) (w : World) :
    Calls Tryd.prog 123 #[exV a b wd sl, .int .i64 R] w fun e w' => e = .returned (.int .i64 (a + m)) ∧ Below w.heap.size w w' := by
  unfold exV
  obtain ⟨ha1, ha2⟩ := ha
  obtain ⟨hm1, hm2⟩ := hmb
  go_enter Tryd.func123, Tryd.ntmps123
  go_wp2
  go_ret
  exact ⟨by simp [*], by go_grown⟩

set_option maxRecDepth 100000 in
set_option maxHeartbeats 400000 in
theorem has13_any (a b wd R s i : Int) (sl : Bool) (w : World) :
    Calls Tryd.prog 122 #[exV a b wd sl, .int .i64 R, .int .i64 s, .int .i64 i] w fun e w' => e = .returned (.bool (decide (has13P (slotsP sl R) wd s i))) ∧ Below w.heap.size w w' := by
  have key : ∀ (S : Int), slotsP sl R = S → Calls Tryd.prog 122 #[exV a b wd sl, .int .i64 R, .int .i64 s, .int .i64 i] w fun e w' => e = .returned (.bool (decide (has13P S wd s i))) ∧ Below w.heap.size w w' := by
    intro S hS
    unfold exV
    by_cases h0 : 0 ≤ s ∧ s < S
    · have W0 := Lib.hid (decide_eq_true h0)
      obtain ⟨o, ho⟩ : ∃ o, decide (0 ≤ i ∧ i < wd) = o := ⟨_, rfl⟩
      have W1 := Lib.hid ho
      rw [show decide (has13P S wd s i) = o from by rw [← ho]; unfold has13P; by_cases h1 : 0 ≤ i ∧ i < wd <;> simp [h0, h1]]
      clear h0 ho
      cases sl
      · obtain rfl : (1 : Int) = S := hS
        go_enter Tryd.func122, Tryd.ntmps122
        go_wp2_with fail
        refine (below13_any _ _ _).mono ?_
        rintro e w' ⟨rfl, rfl⟩
        rw [W0.out]
        go_wp2_with fail
        refine (below13_any _ _ _).mono ?_
        rintro e w' ⟨rfl, rfl⟩
        rw [W1.out]
        go_wp2
        go_ret
        exact ⟨rfl, by go_grown⟩
      · obtain rfl : R = S := hS
        go_enter Tryd.func122, Tryd.ntmps122
        go_wp2_with fail
        refine (below13_any _ _ _).mono ?_
        rintro e w' ⟨rfl, rfl⟩
        rw [W0.out]
        go_wp2_with fail
        refine (below13_any _ _ _).mono ?_
        rintro e w' ⟨rfl, rfl⟩
        rw [W1.out]
        go_wp2
        go_ret
        exact ⟨rfl, by go_grown⟩
    · have W0 := Lib.hid (decide_eq_false h0)
      rw [decide_eq_false (show ¬ has13P S wd s i from fun h => h0 h.1)]
      clear h0
      cases sl
      · obtain rfl : (1 : Int) = S := hS
        go_enter Tryd.func122, Tryd.ntmps122
        go_wp2_with fail
        refine (below13_any _ _ _).mono ?_
        rintro e w' ⟨rfl, rfl⟩
        rw [W0.out]
        go_wp2
        go_ret
        exact ⟨rfl, by go_grown⟩
      · obtain rfl : R = S := hS
        go_enter Tryd.func122, Tryd.ntmps122
        go_wp2_with fail
        refine (below13_any _ _ _).mono ?_
        rintro e w' ⟨rfl, rfl⟩
        rw [W0.out]
        go_wp2
        go_ret
        exact ⟨rfl, by go_grown⟩
  exact key _ rfl

/-- There is a word of the field f at the slot s and the index i of a channel of R slots. -/
def okWord (R f s i : Int) : Prop := (1 ≤ f ∧ f ≤ 4 ∧ s = 0 ∧ i = 0) ∨ (5 ≤ f ∧ f ≤ 7 ∧ 0 ≤ s ∧ s < R ∧ i = 0) ∨ (f = 8 ∧ 0 ≤ s ∧ s < R ∧ 0 ≤ i ∧ i < 8)

instance (R f s i : Int) : Decidable (okWord R f s i) := by unfold okWord; infer_instance

/-- Where in the channel it lies. -/
def offP (R f s i : Int) : Int := if f ≤ 4 then f - 1 else if f ≤ 7 then 4 + (f - 5) * R + s else 4 + 3 * R + 8 * s + i

def atV13 (B R f s i : Int) : Int := if okWord R f s i then B + offP R f s i else 0

theorem okWord_iff {R s i : Int} {k : Nat} (h : 1 ≤ k ∧ k ≤ 8) : okWord R k s i ↔ has13P (slotsP (tabRow k).2.2.2 R) (tabRow k).2.2.1 s i := by
  have : k = 1 ∨ k = 2 ∨ k = 3 ∨ k = 4 ∨ k = 5 ∨ k = 6 ∨ k = 7 ∨ k = 8 := by omega
  unfold okWord has13P slotsP
  rcases this with rfl | rfl | rfl | rfl | rfl | rfl | rfl | rfl <;> simp [tabRow] <;> omega

theorem offP_eq {R s i : Int} {k : Nat} (h : 1 ≤ k ∧ k ≤ 8) (ho : okWord R k s i) : offP R k s i = (tabRow k).1 + (tabRow k).2.1 * R + s * (tabRow k).2.2.1 + i := by
  have : k = 1 ∨ k = 2 ∨ k = 3 ∨ k = 4 ∨ k = 5 ∨ k = 6 ∨ k = 7 ∨ k = 8 := by omega
  unfold okWord at ho
  unfold offP
  rcases this with rfl | rfl | rfl | rfl | rfl | rfl | rfl | rfl <;> simp [tabRow] at ho ⊢ <;> omega

def plV (B R : Int) : Value := .agg #[.int .i64 B, .int .i64 R]

set_option maxRecDepth 100000 in
set_option maxHeartbeats 2000000 in
theorem at13_any (B R f s i : Int) (hB : 0 ≤ B ∧ B ≤ 100000) (hR : 0 ≤ R ∧ R ≤ 64) (w : World) (hT : TabAt w) :
    Calls Tryd.prog 120 #[plV B R, .int .i64 f, .int .i64 s, .int .i64 i] w fun e w' => e = .returned (.tuple #[.int .i64 (atV13 B R f s i), .bool (decide (okWord R f s i))]) ∧ Below w.heap.size w w' := by
  unfold plV
  by_cases hf : 1 ≤ f ∧ f ≤ 8
  · have W0 := Lib.hid (decide_eq_true hf)
    obtain ⟨k, rfl, hk1, hk8⟩ := field_nat hf
    have hk9 : k < 9 := by omega
    have hk9' : (k : Int) < 9 := by omega
    have hk0 : (0 : Int) ≤ (k : Int) := by omega
    have hbd := tabRow_bd ⟨hk1, hk8⟩
    have hiff := okWord_iff (R := R) (s := s) (i := i) ⟨hk1, hk8⟩
    have hoff := offP_eq (R := R) (s := s) (i := i) ⟨hk1, hk8⟩
    have TR := Lib.hid (fun (W : World) (h : TabAt W) => h.row k hk9)
    obtain ⟨a, ea⟩ : ∃ a, (tabRow k).1 = a := ⟨_, rfl⟩
    obtain ⟨b, eb⟩ : ∃ b, (tabRow k).2.1 = b := ⟨_, rfl⟩
    obtain ⟨wd, ewd⟩ : ∃ b, (tabRow k).2.2.1 = b := ⟨_, rfl⟩
    obtain ⟨sl, esl⟩ : ∃ b, (tabRow k).2.2.2 = b := ⟨_, rfl⟩
    rw [ea, eb, ewd] at hbd
    rw [esl, ewd] at hiff
    rw [ea, eb, ewd] at hoff
    rw [ea, eb, ewd, esl] at TR
    clear ea eb ewd esl
    obtain ⟨ha1, ha2, hbb1, hbb2, hw1, hw2⟩ := hbd
    have HT := Lib.hid (fun (W : World) (hb : Below (w.alloc (.cells #[.int .i64 B, .int .i64 R] 23)).heap.size (w.alloc (.cells #[.int .i64 B, .int .i64 R] 23)) W) =>
      (show W.cell? ⟨0, k * 4, none⟩ = some (.int .i64 a) ∧ W.cell? ⟨0, k * 4 + 1, none⟩ = some (.int .i64 b) ∧ W.cell? ⟨0, k * 4 + 2, none⟩ = some (.int .i64 wd) ∧ W.cell? ⟨0, k * 4 + 3, none⟩ = some (.bool sl) ∧
        W.cell? ⟨w.heap.size, 0, none⟩ = some (.int .i64 B) ∧ W.cell? ⟨w.heap.size, 1, none⟩ = some (.int .i64 R) ∧ Below (w.alloc (.cells #[.int .i64 B, .int .i64 R] 23)).heap.size (w.alloc (.cells #[.int .i64 B, .int .i64 R] 23)) W from
        ⟨(TR.out W ((hT.al _).below hb)).1, (TR.out W ((hT.al _).below hb)).2.1, (TR.out W ((hT.al _).below hb)).2.2.1, (TR.out W ((hT.al _).below hb)).2.2.2,
          ((Row.new w 23 #[.int .i64 B, .int .i64 R]).below hb).cell 0, ((Row.new w 23 #[.int .i64 B, .int .i64 R]).below hb).cell 1, hb⟩))
    have HA := Lib.hid (below_al w (.cells #[.int .i64 B, .int .i64 R] 23))
    have hlt := hT.lt
    clear hT TR hf
    have HN := Lib.hid (fun W => ((within13_any (k : Int) 1 8 W).mono (R' := fun e w' => e = .returned (.bool true) ∧ Below W.heap.size W w') fun _ _ ⟨he, hw⟩ => ⟨by rw [he, W0.out], by rw [← hw]; exact Below.refl _ _⟩))
    have hb0 : Below (w.alloc (.cells #[.int .i64 B, .int .i64 R] 23)).heap.size (w.alloc (.cells #[.int .i64 B, .int .i64 R] 23)) (w.alloc (.cells #[.int .i64 B, .int .i64 R] 23)) := Below.refl _ _
    have HS := Lib.hid (fun W => has13_any a b wd R s i sl W)
    have hg0 : 0 < w.heap.size := hlt
    by_cases hh : okWord R k s i
    · have HD := decide_eq_true (hiff.1 hh)
      have hs : 0 ≤ s ∧ s < 64 ∧ 0 ≤ i ∧ i < 8 := by
        unfold okWord at hh
        omega
      obtain ⟨hs1, hs2, hs3, hs4⟩ := hs
      rw [show atV13 B R k s i = B + (a + b * R + s * wd + i) from by unfold atV13; rw [if_pos hh, hoff hh], decide_eq_true hh]
      have hp : 0 ≤ s * wd ∧ s * wd ≤ 512 := ⟨Int.mul_nonneg hs1 (by omega), Int.le_trans (Int.mul_le_mul (show s ≤ 64 by omega) hw2 (by omega) (by omega)) (by omega)⟩
      have hm : 0 ≤ b * R ∧ b * R ≤ 192 := ⟨Int.mul_nonneg hbb1 hR.1, Int.le_trans (Int.mul_le_mul hbb2 hR.2 hR.1 (by omega)) (by omega)⟩
      have HST := Lib.hid (fun W => start13_any a b wd R (b * R) sl rfl (by omega) (by omega) W)
      obtain ⟨p, ep⟩ : ∃ p, s * wd = p := ⟨_, rfl⟩
      obtain ⟨m, em⟩ : ∃ m, b * R = m := ⟨_, rfl⟩
      rw [em] at HST
      rw [ep] at hp ⊢
      rw [em] at hm ⊢
      obtain ⟨hp1, hp2⟩ := hp
      obtain ⟨hm1, hm2⟩ := hm
      obtain ⟨hB1, hB2⟩ := hB
      obtain ⟨hR1, hR2⟩ := hR
      rw [HD] at HS
      clear hh HD hiff hoff em
      unfold exV at HS HST
      go_enter Tryd.func120, Tryd.ntmps120
      go_wp2
      obtain ⟨c0, c1, c2, c3, c4, c5, -⟩ := HT.out _ hb0
      generalize w.alloc (.cells #[.int .i64 B, .int .i64 R] 23) = w1 at *
      generalize hP : w.heap.size = P at *
      go_region_held3 (fun W => W.cell? ⟨0, k * 4, none⟩ = some (.int .i64 a) ∧ W.cell? ⟨0, k * 4 + 1, none⟩ = some (.int .i64 b) ∧ W.cell? ⟨0, k * 4 + 2, none⟩ = some (.int .i64 wd) ∧ W.cell? ⟨0, k * 4 + 3, none⟩ = some (.bool sl) ∧ W.cell? ⟨P, 0, none⟩ = some (.int .i64 B) ∧ W.cell? ⟨P, 1, none⟩ = some (.int .i64 R) ∧ Below w1.heap.size w1 W)
        (first | exact HT.out _ hb2 | exact HT.out _ hb1 | exact HT.out _ hb0.drew | exact HT.out _ hb0 | go_keep)
        (first
          | (go_at_call 104; refine (since13 HN.out w1 _ ?_).mono ?_; (go_split_ands; assumption); rintro e w5 ⟨rfl, hb1⟩)
          | (go_at_call 122; refine (since13 HS.out w1 _ ?_).mono ?_; (go_split_ands; assumption); rintro e w6 ⟨rfl, hb2⟩))
      clear c0 c1 c2 c3 c4 c5 hb0 hb1
      obtain ⟨c0, c1, c2, c3, c4, c5, -⟩ := HT.out _ hb2
      go_wp2
      go_region_held3 (fun W => W.cell? ⟨0, k * 4, none⟩ = some (.int .i64 a) ∧ W.cell? ⟨0, k * 4 + 1, none⟩ = some (.int .i64 b) ∧ W.cell? ⟨0, k * 4 + 2, none⟩ = some (.int .i64 wd) ∧ W.cell? ⟨0, k * 4 + 3, none⟩ = some (.bool sl) ∧ W.cell? ⟨P, 0, none⟩ = some (.int .i64 B) ∧ W.cell? ⟨P, 1, none⟩ = some (.int .i64 R) ∧ Below w1.heap.size w1 W)
        (first | exact HT.out _ hb3 | exact HT.out _ hb2.drew | exact HT.out _ hb2 | go_keep)
        (first
          | (go_at_call 123; refine (since13 HST.out w1 _ ?_).mono ?_; (go_split_ands; assumption); rintro e w7 ⟨rfl, hb3⟩))
      go_wp2
      go_ret2
      have EW : IntKind.i64.wrap (IntKind.i64.wrap (IntKind.i64.wrap (B + (a + m)) + IntKind.i64.wrap p) + i) = B + (a + m + p + i) := by
        simp only [IntKind.wrap_i64]
        omega
      subst hP
      exact ⟨by simp [EW], below_on HA.out hb3⟩
    · have HD := decide_eq_false (fun h => hh (hiff.2 h))
      rw [show atV13 B R k s i = 0 from if_neg hh, decide_eq_false hh]
      rw [HD] at HS
      clear hh HD hiff hoff hB hR
      unfold exV at HS
      go_enter Tryd.func120, Tryd.ntmps120
      go_wp2
      obtain ⟨c0, c1, c2, c3, c4, c5, -⟩ := HT.out _ hb0
      generalize w.alloc (.cells #[.int .i64 B, .int .i64 R] 23) = w1 at *
      generalize hP : w.heap.size = P at *
      go_region_held3 (fun W => W.cell? ⟨0, k * 4, none⟩ = some (.int .i64 a) ∧ W.cell? ⟨0, k * 4 + 1, none⟩ = some (.int .i64 b) ∧ W.cell? ⟨0, k * 4 + 2, none⟩ = some (.int .i64 wd) ∧ W.cell? ⟨0, k * 4 + 3, none⟩ = some (.bool sl) ∧ W.cell? ⟨P, 0, none⟩ = some (.int .i64 B) ∧ W.cell? ⟨P, 1, none⟩ = some (.int .i64 R) ∧ Below w1.heap.size w1 W)
        (first | exact HT.out _ hb2 | exact HT.out _ hb1 | exact HT.out _ hb0.drew | exact HT.out _ hb0 | go_keep)
        (first
          | (go_at_call 104; refine (since13 HN.out w1 _ ?_).mono ?_; (go_split_ands; assumption); rintro e w5 ⟨rfl, hb1⟩)
          | (go_at_call 122; refine (since13 HS.out w1 _ ?_).mono ?_; (go_split_ands; assumption); rintro e w6 ⟨rfl, hb2⟩))
      go_wp2
      go_ret2
      subst hP
      exact ⟨rfl, below_on HA.out hb2⟩
  · have W0 := Lib.hid (decide_eq_false hf)
    have hn : ¬ okWord R f s i := by
      unfold okWord
      omega
    rw [show atV13 B R f s i = 0 from if_neg hn, decide_eq_false hn]
    clear hf hn
    have HW := Lib.hid (fun (W : World) (m : Nat) => (within13_any f 1 8 (W.drewN m)).mono (R' := fun e w' => e = .returned (.bool (decide (1 ≤ f ∧ f ≤ 8))) ∧ ∃ k, w' = W.drewN k) fun _ _ ⟨he, hw⟩ => ⟨he, m, hw.symm⟩)
    rw [W0.out] at HW
    go_enter Tryd.func120, Tryd.ntmps120
    go_wp2
    go_quiet ((go_at_call 104; exact HW.out _ _))
    go_wp2
    go_ret2
    exact ⟨rfl, below_dn (below_al _ _) _⟩

#print axioms at13_any
end Go.Proofs.YtgdbaaoifnedbaaDoor
