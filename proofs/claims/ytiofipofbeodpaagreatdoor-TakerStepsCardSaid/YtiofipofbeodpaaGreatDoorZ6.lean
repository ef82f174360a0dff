/-
  Texts merged, with what one theorem needs of them.
  Conditions: those that each theorem states.
-/
import Derived.Test.YtiofipofbeodpaaGreatDoorRows
import Derived.Test.YtiofipofbeodpaaGreatDoorZ1
import Derived.Test.YtiofipofbeodpaaGreatDoorZ2
import Derived.Test.YtiofipofbeodpaaGreatDoorZ3
import Derived.Test.YtiofipofbeodpaaGreatDoorZ4
import Derived.Test.YtiofipofbeodpaaGreatDoorZ5
import Derived.Below
import Derived.BigQuiet
import Derived.Deep.AppendLies
import Derived.Deep.Draws
import Derived.Deep.OwnRows
import Derived.Deep.QuietTactic
import Derived.Deep.RegionHeld3
import Derived.Handy
import Derived.IntWalk
import Derived.LaidLaws
import Derived.LaidMore
import Derived.Laws.BitsLemmas
import Derived.Laws.CopyOwn
import Derived.Laws.OwnMore
import Derived.Laws.Rows
import Derived.Lib.Hide
import Derived.MakeChecks
import Derived.Maps.AppendAt
import Derived.OpenShut
import Derived.ProofKit
import Derived.WalkKit
namespace Go.Proofs.YtiofipofbeodpaaGreatDoor

section
open Go.ChangeShapes Go.WideShapes Go.ChangeAt Go.RowKit
theorem since13 {f : Nat} {args : Array Value} {v : Value} (h : ∀ W, Calls Tryz.prog f args W fun e w' => e = .returned v ∧ Below W.heap.size W w') (w0 W : World) (hb : Below w0.heap.size w0 W) :
    Calls Tryz.prog f args W fun e w' => e = .returned v ∧ Below w0.heap.size w0 w' :=
  (h W).mono fun _ _ ⟨he, hb'⟩ => ⟨he, below_on hb hb'⟩
theorem TabAt.row {w : World} (h : TabAt w) (k : Nat) (hk : k < 9) :
    w.cell? ⟨0, k * 4, none⟩ = some (.int .i64 (tabRow k).1) ∧ w.cell? ⟨0, k * 4 + 1, none⟩ = some (.int .i64 (tabRow k).2.1) ∧
    w.cell? ⟨0, k * 4 + 2, none⟩ = some (.int .i64 (tabRow k).2.2.1) ∧ w.cell? ⟨0, k * 4 + 3, none⟩ = some (.bool (tabRow k).2.2.2) := by
  rw [Nat.mul_comm k 4]
  exact h k hk
/-- The number of a field as a natural number. -/
theorem field_nat {f : Int} (h : 1 ≤ f ∧ f ≤ 8) : ∃ k : Nat, f = (k : Int) ∧ 1 ≤ k ∧ k ≤ 8 := ⟨f.toNat, by omega, by omega, by omega⟩
theorem tabRow_bd {k : Nat} (h : 1 ≤ k ∧ k ≤ 8) : 0 ≤ (tabRow k).1 ∧ (tabRow k).1 ≤ 4 ∧ 0 ≤ (tabRow k).2.1 ∧ (tabRow k).2.1 ≤ 3 ∧ 1 ≤ (tabRow k).2.2.1 ∧ (tabRow k).2.2.1 ≤ 8 := by
  have : k = 1 ∨ k = 2 ∨ k = 3 ∨ k = 4 ∨ k = 5 ∨ k = 6 ∨ k = 7 ∨ k = 8 := by omega
  rcases this with rfl | rfl | rfl | rfl | rfl | rfl | rfl | rfl <;> simp [tabRow]
/-- The field x has a word at the slot and the index. -/
def has13P (S wd s i : Int) : Prop := (0 ≤ s ∧ s < S) ∧ (0 ≤ i ∧ i < wd)
instance (S wd s i : Int) : Decidable (has13P S wd s i) := by unfold has13P; infer_instance
def slotsP (sl : Bool) (R : Int) : Int := if sl = true then R else 1
def exV (a b wd : Int) (sl : Bool) : Value := .agg #[.int .i64 a, .int .i64 b, .int .i64 wd, .bool sl]
set_option maxRecDepth 100000 in
set_option maxHeartbeats 400000 in
theorem start13_any (a b wd R m : Int) (sl : Bool) (hm : b * R = m) (ha : 0 ≤ a ∧ a ≤ 100) (hmb : 0 ≤ m ∧ m ≤ 100000) (w : World) :
    Calls Tryz.prog 88 #[exV a b wd sl, .int .i64 R] w fun e w' => e = .returned (.int .i64 (a + m)) ∧ Below w.heap.size w w' := by
  unfold exV
  obtain ⟨ha1, ha2⟩ := ha
  obtain ⟨hm1, hm2⟩ := hmb
  go_enter Tryz.func88, Tryz.ntmps88
  go_wp2
  go_ret
  exact ⟨by simp [*], by go_grown⟩
set_option maxRecDepth 100000 in
set_option maxHeartbeats 400000 in
theorem has13_any (a b wd R s i : Int) (sl : Bool) (w : World) :
    Calls Tryz.prog 87 #[exV a b wd sl, .int .i64 R, .int .i64 s, .int .i64 i] w fun e w' => e = .returned (.bool (decide (has13P (slotsP sl R) wd s i))) ∧ Below w.heap.size w w' := by
  have key : ∀ (S : Int), slotsP sl R = S → Calls Tryz.prog 87 #[exV a b wd sl, .int .i64 R, .int .i64 s, .int .i64 i] w fun e w' => e = .returned (.bool (decide (has13P S wd s i))) ∧ Below w.heap.size w w' := by
    intro S hS
    unfold exV
    by_cases h0 : 0 ≤ s ∧ s < S
    · have W0 := Lib.hid (decide_eq_true h0)
      obtain ⟨o, ho⟩ : ∃ o, decide (0 ≤ i ∧ i < wd) = o := ⟨_, rfl⟩
      have W1 := Lib.hid ho
      rw [show decide (has13P S wd s i) = o from by rw [← ho]; unfold has13P; by_cases h1 : 0 ≤ i ∧ i < wd <;> simp [h0, h1]]
      clear h0 ho
      cases sl
      · obtain rfl : (1 : Int) = S := hS
        go_enter Tryz.func87, Tryz.ntmps87
        go_wp2_with fail
        refine (below13_any _ _ _).mono ?_
        rintro e w' ⟨rfl, rfl⟩
        rw [W0.out]
        go_wp2_with fail
        refine (below13_any _ _ _).mono ?_
        rintro e w' ⟨rfl, rfl⟩
        rw [W1.out]
        go_wp2
        go_ret
        exact ⟨rfl, by go_grown⟩
      · obtain rfl : R = S := hS
        go_enter Tryz.func87, Tryz.ntmps87
        go_wp2_with fail
        refine (below13_any _ _ _).mono ?_
        rintro e w' ⟨rfl, rfl⟩
        rw [W0.out]
        go_wp2_with fail
        refine (below13_any _ _ _).mono ?_
        rintro e w' ⟨rfl, rfl⟩
        rw [W1.out]
        go_wp2
        go_ret
        exact ⟨rfl, by go_grown⟩
    · have W0 := Lib.hid (decide_eq_false h0)
      rw [decide_eq_false (show ¬ has13P S wd s i from fun h => h0 h.1)]
      clear h0
      cases sl
      · obtain rfl : (1 : Int) = S := hS
        go_enter Tryz.func87, Tryz.ntmps87
        go_wp2_with fail
        refine (below13_any _ _ _).mono ?_
        rintro e w' ⟨rfl, rfl⟩
        rw [W0.out]
        go_wp2
        go_ret
        exact ⟨rfl, by go_grown⟩
      · obtain rfl : R = S := hS
        go_enter Tryz.func87, Tryz.ntmps87
        go_wp2_with fail
        refine (below13_any _ _ _).mono ?_
        rintro e w' ⟨rfl, rfl⟩
        rw [W0.out]
        go_wp2
        go_ret
        exact ⟨rfl, by go_grown⟩
  exact key _ rfl
/-- There is a word of the field f at the slot s and the index i of a channel of R slots. -/
def okWord (R f s i : Int) : Prop := (1 ≤ f ∧ f ≤ 4 ∧ s = 0 ∧ i = 0) ∨ (5 ≤ f ∧ f ≤ 7 ∧ 0 ≤ s ∧ s < R ∧ i = 0) ∨ (f = 8 ∧ 0 ≤ s ∧ s < R ∧ 0 ≤ i ∧ i < 8)
instance (R f s i : Int) : Decidable (okWord R f s i) := by unfold okWord; infer_instance
/-- Where in the channel it lies. -/
def offP (R f s i : Int) : Int := if f ≤ 4 then f - 1 else if f ≤ 7 then 4 + (f - 5) * R + s else 4 + 3 * R + 8 * s + i
def atV13 (B R f s i : Int) : Int := if okWord R f s i then B + offP R f s i else 0
theorem okWord_iff {R s i : Int} {k : Nat} (h : 1 ≤ k ∧ k ≤ 8) : okWord R k s i ↔ has13P (slotsP (tabRow k).2.2.2 R) (tabRow k).2.2.1 s i := by
  have : k = 1 ∨ k = 2 ∨ k = 3 ∨ k = 4 ∨ k = 5 ∨ k = 6 ∨ k = 7 ∨ k = 8 := by omega
  unfold okWord has13P slotsP
  rcases this with rfl | rfl | rfl | rfl | rfl | rfl | rfl | rfl <;> simp [tabRow] <;> omega
theorem offP_eq {R s i : Int} {k : Nat} (h : 1 ≤ k ∧ k ≤ 8) (ho : okWord R k s i) : offP R k s i = (tabRow k).1 + (tabRow k).2.1 * R + s * (tabRow k).2.2.1 + i := by
  have : k = 1 ∨ k = 2 ∨ k = 3 ∨ k = 4 ∨ k = 5 ∨ k = 6 ∨ k = 7 ∨ k = 8 := by omega
  unfold okWord at ho
  unfold offP
  rcases this with rfl | rfl | rfl | rfl | rfl | rfl | rfl | rfl <;> simp [tabRow] at ho ⊢ <;> omega
def plV (B R : Int) : Value := .agg #[.int .i64 B, .int .i64 R]
set_option maxRecDepth 100000 in
set_option maxHeartbeats 2000000 in
theorem at13_any (B R f s i : Int) (hB : 0 ≤ B ∧ B ≤ 100000) (hR : 0 ≤ R ∧ R ≤ 64) (w : World) (hT : TabAt w) :
    Calls Tryz.prog 86 #[plV B R, .int .i64 f, .int .i64 s, .int .i64 i] w fun e w' => e = .returned (.tuple #[.int .i64 (atV13 B R f s i), .bool (decide (okWord R f s i))]) ∧ Below w.heap.size w w' := by
  unfold plV
  by_cases hf : 1 ≤ f ∧ f ≤ 8
  · have W0 := Lib.hid (decide_eq_true hf)
    obtain ⟨k, rfl, hk1, hk8⟩ := field_nat hf
    have hk9 : k < 9 := by omega
    have hk9' : (k : Int) < 9 := by omega
    have hk0 : (0 : Int) ≤ (k : Int) := by omega
    have hbd := tabRow_bd ⟨hk1, hk8⟩
    have hiff := okWord_iff (R := R) (s := s) (i := i) ⟨hk1, hk8⟩
    have hoff := offP_eq (R := R) (s := s) (i := i) ⟨hk1, hk8⟩
    have TR := Lib.hid (fun (W : World) (h : TabAt W) => h.row k hk9)
    obtain ⟨a, ea⟩ : ∃ a, (tabRow k).1 = a := ⟨_, rfl⟩
    obtain ⟨b, eb⟩ : ∃ b, (tabRow k).2.1 = b := ⟨_, rfl⟩
    obtain ⟨wd, ewd⟩ : ∃ b, (tabRow k).2.2.1 = b := ⟨_, rfl⟩
    obtain ⟨sl, esl⟩ : ∃ b, (tabRow k).2.2.2 = b := ⟨_, rfl⟩
    rw [ea, eb, ewd] at hbd
    rw [esl, ewd] at hiff
    rw [ea, eb, ewd] at hoff
    rw [ea, eb, ewd, esl] at TR
    clear ea eb ewd esl
    obtain ⟨ha1, ha2, hbb1, hbb2, hw1, hw2⟩ := hbd
    have HT := Lib.hid (fun (W : World) (hb : Below (w.alloc (.cells #[.int .i64 B, .int .i64 R] 23)).heap.size (w.alloc (.cells #[.int .i64 B, .int .i64 R] 23)) W) =>
      (show W.cell? ⟨0, k * 4, none⟩ = some (.int .i64 a) ∧ W.cell? ⟨0, k * 4 + 1, none⟩ = some (.int .i64 b) ∧ W.cell? ⟨0, k * 4 + 2, none⟩ = some (.int .i64 wd) ∧ W.cell? ⟨0, k * 4 + 3, none⟩ = some (.bool sl) ∧
        W.cell? ⟨w.heap.size, 0, none⟩ = some (.int .i64 B) ∧ W.cell? ⟨w.heap.size, 1, none⟩ = some (.int .i64 R) ∧ Below (w.alloc (.cells #[.int .i64 B, .int .i64 R] 23)).heap.size (w.alloc (.cells #[.int .i64 B, .int .i64 R] 23)) W from
        ⟨(TR.out W ((hT.al _).below hb)).1, (TR.out W ((hT.al _).below hb)).2.1, (TR.out W ((hT.al _).below hb)).2.2.1, (TR.out W ((hT.al _).below hb)).2.2.2,
          ((Row.new w 23 #[.int .i64 B, .int .i64 R]).below hb).cell 0, ((Row.new w 23 #[.int .i64 B, .int .i64 R]).below hb).cell 1, hb⟩))
    have HA := Lib.hid (below_al w (.cells #[.int .i64 B, .int .i64 R] 23))
    have hlt := hT.lt
    clear hT TR hf
    have HN := Lib.hid (fun W => ((within13_any (k : Int) 1 8 W).mono (R' := fun e w' => e = .returned (.bool true) ∧ Below W.heap.size W w') fun _ _ ⟨he, hw⟩ => ⟨by rw [he, W0.out], by rw [← hw]; exact Below.refl _ _⟩))
    have hb0 : Below (w.alloc (.cells #[.int .i64 B, .int .i64 R] 23)).heap.size (w.alloc (.cells #[.int .i64 B, .int .i64 R] 23)) (w.alloc (.cells #[.int .i64 B, .int .i64 R] 23)) := Below.refl _ _
    have HS := Lib.hid (fun W => has13_any a b wd R s i sl W)
    have hg0 : 0 < w.heap.size := hlt
    by_cases hh : okWord R k s i
    · have HD := decide_eq_true (hiff.1 hh)
      have hs : 0 ≤ s ∧ s < 64 ∧ 0 ≤ i ∧ i < 8 := by
        unfold okWord at hh
        omega
      obtain ⟨hs1, hs2, hs3, hs4⟩ := hs
      rw [show atV13 B R k s i = B + (a + b * R + s * wd + i) from by unfold atV13; rw [if_pos hh, hoff hh], decide_eq_true hh]
      have hp : 0 ≤ s * wd ∧ s * wd ≤ 512 := ⟨Int.mul_nonneg hs1 (by omega), Int.le_trans (Int.mul_le_mul (show s ≤ 64 by omega) hw2 (by omega) (by omega)) (by omega)⟩
      have hm : 0 ≤ b * R ∧ b * R ≤ 192 := ⟨Int.mul_nonneg hbb1 hR.1, Int.le_trans (Int.mul_le_mul hbb2 hR.2 hR.1 (by omega)) (by omega)⟩
      have HST := Lib.hid (fun W => start13_any a b wd R (b * R) sl rfl (by omega) (by omega) W)
      obtain ⟨p, ep⟩ : ∃ p, s * wd = p := ⟨_, rfl⟩
      obtain ⟨m, em⟩ : ∃ m, b * R = m := ⟨_, rfl⟩
      rw [em] at HST
      rw [ep] at hp ⊢
      rw [em] at hm ⊢
      obtain ⟨hp1, hp2⟩ := hp
      obtain ⟨hm1, hm2⟩ := hm
      obtain ⟨hB1, hB2⟩ := hB
      obtain ⟨hR1, hR2⟩ := hR
      rw [HD] at HS
      clear hh HD hiff hoff em
      unfold exV at HS HST
      go_enter Tryz.func86, Tryz.ntmps86
      go_wp2
      obtain ⟨c0, c1, c2, c3, c4, c5, -⟩ := HT.out _ hb0
      generalize w.alloc (.cells #[.int .i64 B, .int .i64 R] 23) = w1 at *
      generalize hP : w.heap.size = P at *
      go_region_held3 (fun W => W.cell? ⟨0, k * 4, none⟩ = some (.int .i64 a) ∧ W.cell? ⟨0, k * 4 + 1, none⟩ = some (.int .i64 b) ∧ W.cell? ⟨0, k * 4 + 2, none⟩ = some (.int .i64 wd) ∧ W.cell? ⟨0, k * 4 + 3, none⟩ = some (.bool sl) ∧ W.cell? ⟨P, 0, none⟩ = some (.int .i64 B) ∧ W.cell? ⟨P, 1, none⟩ = some (.int .i64 R) ∧ Below w1.heap.size w1 W)
        (first | exact HT.out _ hb2 | exact HT.out _ hb1 | exact HT.out _ hb0.drew | exact HT.out _ hb0 | go_keep)
        (first
          | (go_at_call 55; refine (since13 HN.out w1 _ ?_).mono ?_; (go_split_ands; assumption); rintro e w5 ⟨rfl, hb1⟩)
          | (go_at_call 87; refine (since13 HS.out w1 _ ?_).mono ?_; (go_split_ands; assumption); rintro e w6 ⟨rfl, hb2⟩))
      clear c0 c1 c2 c3 c4 c5 hb0 hb1
      obtain ⟨c0, c1, c2, c3, c4, c5, -⟩ := HT.out _ hb2
      go_wp2
      go_region_held3 (fun W => W.cell? ⟨0, k * 4, none⟩ = some (.int .i64 a) ∧ W.cell? ⟨0, k * 4 + 1, none⟩ = some (.int .i64 b) ∧ W.cell? ⟨0, k * 4 + 2, none⟩ = some (.int .i64 wd) ∧ W.cell? ⟨0, k * 4 + 3, none⟩ = some (.bool sl) ∧ W.cell? ⟨P, 0, none⟩ = some (.int .i64 B) ∧ W.cell? ⟨P, 1, none⟩ = some (.int .i64 R) ∧ Below w1.heap.size w1 W)
        (first | exact HT.out _ hb3 | exact HT.out _ hb2.drew | exact HT.out _ hb2 | go_keep)
        (first
          | (go_at_call 88; refine (since13 HST.out w1 _ ?_).mono ?_; (go_split_ands; assumption); rintro e w7 ⟨rfl, hb3⟩))
      go_wp2
      go_ret2
      have EW : IntKind.i64.wrap (IntKind.i64.wrap (IntKind.i64.wrap (B + (a + m)) + IntKind.i64.wrap p) + i) = B + (a + m + p + i) := by
        simp only [IntKind.wrap_i64]
        omega
      subst hP
      exact ⟨by simp [EW], below_on HA.out hb3⟩
    · have HD := decide_eq_false (fun h => hh (hiff.2 h))
      rw [show atV13 B R k s i = 0 from if_neg hh, decide_eq_false hh]
      rw [HD] at HS
      clear hh HD hiff hoff hB hR
      unfold exV at HS
      go_enter Tryz.func86, Tryz.ntmps86
      go_wp2
      obtain ⟨c0, c1, c2, c3, c4, c5, -⟩ := HT.out _ hb0
      generalize w.alloc (.cells #[.int .i64 B, .int .i64 R] 23) = w1 at *
      generalize hP : w.heap.size = P at *
      go_region_held3 (fun W => W.cell? ⟨0, k * 4, none⟩ = some (.int .i64 a) ∧ W.cell? ⟨0, k * 4 + 1, none⟩ = some (.int .i64 b) ∧ W.cell? ⟨0, k * 4 + 2, none⟩ = some (.int .i64 wd) ∧ W.cell? ⟨0, k * 4 + 3, none⟩ = some (.bool sl) ∧ W.cell? ⟨P, 0, none⟩ = some (.int .i64 B) ∧ W.cell? ⟨P, 1, none⟩ = some (.int .i64 R) ∧ Below w1.heap.size w1 W)
        (first | exact HT.out _ hb2 | exact HT.out _ hb1 | exact HT.out _ hb0.drew | exact HT.out _ hb0 | go_keep)
        (first
          | (go_at_call 55; refine (since13 HN.out w1 _ ?_).mono ?_; (go_split_ands; assumption); rintro e w5 ⟨rfl, hb1⟩)
          | (go_at_call 87; refine (since13 HS.out w1 _ ?_).mono ?_; (go_split_ands; assumption); rintro e w6 ⟨rfl, hb2⟩))
      go_wp2
      go_ret2
      subst hP
      exact ⟨rfl, below_on HA.out hb2⟩
  · have W0 := Lib.hid (decide_eq_false hf)
    have hn : ¬ okWord R f s i := by
      unfold okWord
      omega
    rw [show atV13 B R f s i = 0 from if_neg hn, decide_eq_false hn]
    clear hf hn
    have HW := Lib.hid (fun (W : World) (m : Nat) => (within13_any f 1 8 (W.drewN m)).mono (R' := fun e w' => e = .returned (.bool (decide (1 ≤ f ∧ f ≤ 8))) ∧ ∃ k, w' = W.drewN k) fun _ _ ⟨he, hw⟩ => ⟨he, m, hw.symm⟩)
    rw [W0.out] at HW
    go_enter Tryz.func86, Tryz.ntmps86
    go_wp2
    go_quiet ((go_at_call 55; exact HW.out _ _))
    go_wp2
    go_ret2
    exact ⟨rfl, below_dn (below_al _ _) _⟩
end

section
open Go.ChangeShapes Go.WideShapes Go.ChangeAt Go.RowKit
def ofOk (c r b f t : Int) : Prop := okConf c r b ∧ okPair c f t
instance (c r b f t : Int) : Decidable (ofOk c r b f t) := by unfold ofOk; infer_instance
end

section
open Go.ChangeShapes Go.WideShapes Go.ChangeAt Go.RowKit
/-- Where the words of the field k begin, and how many there are. -/
def fstP (k : Nat) (R : Int) : Int := (tabRow k).1 + (tabRow k).2.1 * R
def lenP (k : Nat) (R : Int) : Int := slotsP (tabRow k).2.2.2 R * (tabRow k).2.2.1
end

section
open Go.ChangeShapes Go.WideShapes Go.ChangeAt Go.RowKit
set_option maxRecDepth 100000 in
set_option maxHeartbeats 400000 in
theorem rring13_any (n : Int) (w : World) :
    Calls Tryz.prog 53 #[.int .i64 n] w fun e w' => e = .returned (.bool (decide (okRing n))) ∧ w = w' := by
  obtain ⟨o, ho⟩ : ∃ o, decide (okRing n) = o := ⟨_, rfl⟩
  have HO := Lib.hid ho
  rw [ho]
  clear ho
  go_enter Tryz.func53, Tryz.ntmps53
  go_wp2
  go_loop [3] (fun p => ∃ x : Int, p = .int .i64 x ∧ 2 ≤ x ∧ x ≤ 128 ∧ Hid ((okRing x ∨ x = 128) ∧ ∀ y, okRing y → y < x → n ≠ y)) (fun p => 128 - (intOf p).toNat)
  case atStart => exact ⟨2, rfl, by omega, by omega, Lib.hid ⟨Or.inl (Or.inl rfl), fun y hy hlt => by have := hy.bd; omega⟩⟩
  case round =>
    obtain ⟨x, rfl, hx1, hx2, HX⟩ := hrel
    by_cases hx : x ≤ 64
    · have t0 : decide (x ≤ 64) = true := by simpa using hx
      have hxr : okRing x := by
        rcases HX.out.1 with h | h
        · exact h
        · omega
      by_cases he : x = n
      · have t1 : (x == n) = true := beq_iff_eq.2 he
        obtain rfl : o = true := by rw [← HO.out]; exact decide_eq_true (he ▸ hxr)
        clear he hxr
        go_wp2
        go_ret
        exact ⟨rfl, rfl⟩
      · have t1 : (x == n) = false := beq_eq_false_iff_ne.2 he
        have HX2 := Lib.hid (show (okRing (2 * x) ∨ 2 * x = 128) ∧ ∀ y, okRing y → y < 2 * x → n ≠ y from by
          have hx2 := HX.out.2
          unfold okRing at hxr ⊢
          refine ⟨by omega, fun y hy hlt e => ?_⟩
          subst e
          by_cases hnx : n < x
          · exact hx2 n hy hnx rfl
          · omega)
        clear he hxr
        go_wp2
        go_round
        case rel => exact ⟨2 * x, by go_num, by omega, by omega, HX2⟩
        case measure => simp [intOf]; omega
    · have t0 : decide (x ≤ 64) = false := by simpa using hx
      obtain rfl : o = false := by
        rw [← HO.out]
        refine decide_eq_false fun h => ?_
        rcases HX.out.1 with h2 | h2
        · have := h2.bd; omega
        · exact HX.out.2 n h (by have := h.bd; omega) rfl
      go_wp2
      go_ret
      exact ⟨rfl, rfl⟩
end

section
open Go.ChangeShapes Go.WideShapes Go.ChangeAt Go.RowKit
/-- Where the words of the field k begin; behind the last field, where the channel ends. -/
def begP (k : Nat) (R : Int) : Int := if k = 9 then 4 + 11 * R else fstP k R
theorem beg_step {k : Nat} {R : Int} (hk : 1 ≤ k ∧ k ≤ 8) : begP (k + 1) R = begP k R + lenP k R := by
  have : k = 1 ∨ k = 2 ∨ k = 3 ∨ k = 4 ∨ k = 5 ∨ k = 6 ∨ k = 7 ∨ k = 8 := by omega
  unfold begP fstP lenP slotsP
  rcases this with rfl | rfl | rfl | rfl | rfl | rfl | rfl | rfl <;> simp [tabRow] <;> omega
theorem beg_bd {k : Nat} {R : Int} (hk : 1 ≤ k ∧ k ≤ 8) (hR : 0 ≤ R ∧ R ≤ 64) : 0 ≤ begP k R ∧ begP k R ≤ 200 := by
  have : k = 1 ∨ k = 2 ∨ k = 3 ∨ k = 4 ∨ k = 5 ∨ k = 6 ∨ k = 7 ∨ k = 8 := by omega
  unfold begP fstP
  rcases this with rfl | rfl | rfl | rfl | rfl | rfl | rfl | rfl <;> simp [tabRow] <;> omega
theorem beg_off {k : Nat} {R s i : Int} (hk : 1 ≤ k ∧ k ≤ 8) (h : okWord R k s i) : offP R k s i = begP k R + s * (tabRow k).2.2.1 + i := by
  rw [offP_eq hk h]
  unfold begP
  rw [if_neg (by omega)]
  rfl
theorem beg_one (R : Int) : begP 1 R = 0 := by simp [begP, fstP, tabRow]
theorem row_low {k : Nat} (h : 1 ≤ k ∧ k ≤ 4) (R : Int) : lenP k R = 1 ∧ (tabRow k).2.2.1 = 1 ∧ ∀ s i, okWord R k s i ↔ (0 ≤ s ∧ s < 1 ∧ 0 ≤ i ∧ i < 1) := by
  have : k = 1 ∨ k = 2 ∨ k = 3 ∨ k = 4 := by omega
  unfold lenP slotsP okWord
  rcases this with rfl | rfl | rfl | rfl <;> simp [tabRow] <;> omega
theorem row_mid {k : Nat} (h : 5 ≤ k ∧ k ≤ 7) (R : Int) : lenP k R = R ∧ (tabRow k).2.2.1 = 1 ∧ ∀ s i, okWord R k s i ↔ (0 ≤ s ∧ s < R ∧ 0 ≤ i ∧ i < 1) := by
  have : k = 5 ∨ k = 6 ∨ k = 7 := by omega
  unfold lenP slotsP okWord
  rcases this with rfl | rfl | rfl <;> simp [tabRow] <;> omega
theorem row_top {k : Nat} (h : k = 8) (R : Int) : lenP k R = R * 8 ∧ (tabRow k).2.2.1 = 8 ∧ ∀ s i, okWord R k s i ↔ (0 ≤ s ∧ s < R ∧ 0 ≤ i ∧ i < 8) := by
  subst h
  unfold lenP slotsP okWord
  simp [tabRow]
set_option maxRecDepth 100000 in
set_option maxHeartbeats 4000000 in
theorem rat13_any (B R f s i : Int) (hB : 0 ≤ B ∧ B ≤ 100000) (hR : 0 ≤ R ∧ R ≤ 64) (w : World) :
    Calls Tryz.prog 81 #[.int .i64 B, .int .i64 R, .int .i64 f, .int .i64 s, .int .i64 i] w fun e w' => e = .returned (.tuple #[.int .i64 (atV13 B R f s i), .bool (decide (okWord R f s i))]) ∧ w = w' := by
  obtain ⟨hB1, hB2⟩ := hB
  obtain ⟨hR1, hR2⟩ := hR
  obtain ⟨V, eV⟩ : ∃ x, atV13 B R f s i = x := ⟨_, rfl⟩
  obtain ⟨O, eO⟩ : ∃ x, decide (okWord R f s i) = x := ⟨_, rfl⟩
  have HOK := Lib.hid (show okWord R f s i → V = B + offP R f s i ∧ O = true from fun h => ⟨by rw [← eV]; exact if_pos h, by rw [← eO]; exact decide_eq_true h⟩)
  have HNO := Lib.hid (show ¬ okWord R f s i → V = 0 ∧ O = false from fun h => ⟨by rw [← eV]; exact if_neg h, by rw [← eO]; exact decide_eq_false h⟩)
  have HRG := Lib.hid (show okWord R f s i → 1 ≤ f ∧ f ≤ 8 ∧ 0 ≤ s ∧ 0 ≤ i from fun h => by unfold okWord at h; omega)
  rw [eV, eO]
  clear eV eO
  go_enter Tryz.func81, Tryz.ntmps81
  go_wp2
  go_loopw [12, 13] (fun v c wr => ∃ k : Nat, 1 ≤ k ∧ k ≤ 9 ∧ c = .int .i64 k ∧ (∃ x : Int, v = .int .i64 x ∧ 0 ≤ x ∧ x ≤ 110000 ∧ Hid (x = B + begP k R)) ∧ wr = w ∧ Hid (okWord R f s i → (k : Int) ≤ f)) (fun _ c _ => 9 - (intOf c).toNat)
  case atStart => exact ⟨1, by omega, by omega, rfl, ⟨B, rfl, hB1, by omega, Lib.hid (by rw [beg_one]; omega)⟩, (by first | rfl | trivial), Lib.hid (fun h => (HRG.out h).1)⟩
  case round =>
    obtain ⟨k, hk1, hk9, rfl, ⟨x, rfl, hx1, hx2, HX⟩, rfl, HF⟩ := hrel
    by_cases hk8 : k ≤ 8
    · have t0 : decide ((k : Int) ≤ 8) = true := by simp; omega
      have hstep := beg_step (R := R) ⟨hk1, hk8⟩
      have hbb := beg_bd (R := R) ⟨hk1, hk8⟩ ⟨hR1, hR2⟩
      have hoff := fun s i => beg_off (R := R) (s := s) (i := i) ⟨hk1, hk8⟩
      have hx0 := HX.out
      have hx3 : x ≤ 100200 := by omega
      obtain ⟨wo, rfl⟩ : ∃ wo, wo = wr := ⟨_, rfl⟩
      have hcase : k ≤ 4 ∨ (5 ≤ k ∧ k ≤ 7) ∨ k = 8 := by omega
      rcases hcase with hq | hq | hq
      · have t5 : decide ((5 : Int) ≤ (k : Int)) = false := by simp; omega
        have t8 : ((k : Int) == 8) = false := by simp; omega
        obtain ⟨hlen, hwd, hok⟩ := row_low ⟨hk1, hq⟩ R
        rw [hlen] at hstep
        have HOF := Lib.hid (show ∀ j e, okWord R k j e → B + offP R k j e = x + j * 1 + e from fun j e h => by rw [hoff j e h, hwd, hx0]; omega)
        have HWD := Lib.hid hok
        have HSTEP := Lib.hid (show B + begP (k + 1) R = x + 1 * 1 from by rw [hstep, hx0]; omega)
        clear hstep hbb hoff hx0 hlen hwd hok
        go_wp2
        go_loopw [12, 16] (fun v c wi => ∃ j : Nat, (j : Int) ≤ 1 ∧ c = .int .i64 j ∧ v = .int .i64 (x + j * 1) ∧ wi = wo ∧ Hid (okWord R f s i → (k : Int) < f ∨ ((k : Int) = f ∧ (j : Int) ≤ s))) (fun _ c _ => 64 - (intOf c).toNat)
        case atStart => exact ⟨0, by omega, rfl, by simp, (by first | rfl | trivial), Lib.hid (fun h => by
          have h1 := HF.out h
          have h2 := HRG.out h
          omega)⟩
        case round =>
          obtain ⟨j, hj, rfl, rfl, rfl, HG⟩ := hrel
          obtain ⟨wm, rfl⟩ : ∃ wm, wm = wr := ⟨_, rfl⟩
          by_cases hjn : (j : Int) < 1
          · have t1 : decide ((j : Int) < 1) = true := by simpa using hjn
            have t1n : decide (j < 1) = true := by simp; omega
            have hj64 : j < 64 := by omega
            have hxj : x + (j : Int) * 1 ≤ 100800 := by omega
            have hxj0 : 0 ≤ x + (j : Int) * 1 := by omega
            obtain ⟨y, ey⟩ : ∃ y, x + (j : Int) * 1 = y := ⟨_, rfl⟩
            have HY := Lib.hid ey
            rw [ey] at hxj hxj0
            rw [ey]
            clear ey
            go_wp2
            go_loopw [12, 17] (fun v c wi => ∃ e : Nat, (e : Int) ≤ 1 ∧ c = .int .i64 e ∧ v = .int .i64 (y + e) ∧ wi = wm ∧ Hid (okWord R f s i → (k : Int) < f ∨ ((k : Int) = f ∧ ((j : Int) < s ∨ ((j : Int) = s ∧ (e : Int) ≤ i))))) (fun _ c _ => 8 - (intOf c).toNat)
            case atStart => exact ⟨0, by omega, rfl, by simp, (by first | rfl | trivial), Lib.hid (fun h => by
              have h1 := HG.out h
              have h2 := HRG.out h
              omega)⟩
            case round =>
              obtain ⟨e, he, rfl, rfl, rfl, HH⟩ := hrel
              by_cases hen : (e : Int) < 1
              · have t2 : decide ((e : Int) < 1) = true := by simpa using hen
                have t2n : decide (e < 1) = true := by simp; omega
                have he8 : e < 8 := by omega
                have hye : y + (e : Int) ≤ 100900 := by omega
                have hye0 : 0 ≤ y + (e : Int) := by omega
                by_cases hm : (k : Int) = f ∧ (j : Int) = s ∧ (e : Int) = i
                · have t3 : ((k : Int) == f) = true := beq_iff_eq.2 hm.1
                  have t4 : ((j : Int) == s) = true := beq_iff_eq.2 hm.2.1
                  have t6 : ((e : Int) == i) = true := beq_iff_eq.2 hm.2.2
                  have hP : okWord R k j e := (HWD.out _ _).2 ⟨by omega, by omega, by omega, by omega⟩
                  have hP2 : okWord R f s i := by rw [← hm.1, ← hm.2.1, ← hm.2.2]; exact hP
                  obtain ⟨hV, rfl⟩ := HOK.out hP2
                  have hV2 : V = y + (e : Int) := by rw [hV, ← hm.1, ← hm.2.1, ← hm.2.2, HOF.out _ _ hP, HY.out]
                  subst hV2
                  clear hm hP hP2 hV
                  go_wp2
                  go_ret2
                  exact ⟨rfl, (by first | rfl | trivial)⟩
                · have HH2 := Lib.hid (show okWord R f s i → (k : Int) < f ∨ ((k : Int) = f ∧ ((j : Int) < s ∨ ((j : Int) = s ∧ ((e + 1 : Nat) : Int) ≤ i))) from fun h => by
                    have h1 := HH.out h
                    omega)
                  by_cases h3 : (k : Int) = f
                  · have t3 : ((k : Int) == f) = true := beq_iff_eq.2 h3
                    by_cases h4 : (j : Int) = s
                    · have t4 : ((j : Int) == s) = true := beq_iff_eq.2 h4
                      have t6 : ((e : Int) == i) = false := beq_eq_false_iff_ne.2 fun h => hm ⟨h3, h4, h⟩
                      clear hm h3 h4
                      go_wp2
                      go_roundw
                      case rel => exact ⟨e + 1, by omega, by go_num, by go_num, (by first | rfl | trivial), HH2⟩
                      case measure => simp [intOf]; omega
                    · have t4 : ((j : Int) == s) = false := beq_eq_false_iff_ne.2 h4
                      clear hm h3 h4
                      go_wp2
                      go_roundw
                      case rel => exact ⟨e + 1, by omega, by go_num, by go_num, (by first | rfl | trivial), HH2⟩
                      case measure => simp [intOf]; omega
                  · have t3 : ((k : Int) == f) = false := beq_eq_false_iff_ne.2 h3
                    clear hm h3
                    go_wp2
                    go_roundw
                    case rel => exact ⟨e + 1, by omega, by go_num, by go_num, (by first | rfl | trivial), HH2⟩
                    case measure => simp [intOf]; omega
              · have t2 : decide ((e : Int) < 1) = false := by simpa using hen
                have t2n : decide (e < 1) = false := by simp; omega
                have hew : (e : Int) = 1 := by omega
                have HG2 := Lib.hid (show okWord R f s i → (k : Int) < f ∨ ((k : Int) = f ∧ ((j + 1 : Nat) : Int) ≤ s) from fun h => by
                  have h1 := HH.out h
                  by_cases hkf : (k : Int) = f
                  · have h3 : okWord R k s i := by rw [hkf]; exact h
                    have h4 := (HWD.out _ _).1 h3
                    omega
                  · omega)
                have HV := Lib.hid (show y + (e : Int) = x + ((j + 1 : Nat) : Int) * 1 from by rw [← HY.out]; omega)
                clear hen hew
                go_wp2
                go_roundw
                case rel => exact ⟨j + 1, by omega, by go_num, by rw [HV.out], (by first | rfl | trivial), HG2⟩
                case measure => simp [intOf]; omega
          · have t1 : decide ((j : Int) < 1) = false := by simpa using hjn
            have t1n : decide (j < 1) = false := by simp; omega
            have hjn2 : (j : Int) = 1 := by omega
            have HX2 := Lib.hid (show x + (j : Int) * 1 = B + begP (k + 1) R from by rw [HSTEP.out, hjn2])
            have HF2 := Lib.hid (show okWord R f s i → ((k + 1 : Nat) : Int) ≤ f from fun h => by
              have h1 := HG.out h
              by_cases hkf : (k : Int) = f
              · have h3 : okWord R k s i := by rw [hkf]; exact h
                have h4 := (HWD.out _ _).1 h3
                omega
              · omega)
            have hb1 : 0 ≤ x + (j : Int) * 1 := by omega
            have hb2 : x + (j : Int) * 1 ≤ 110000 := by omega
            clear hjn hjn2
            go_wp2
            go_roundw
            case rel => exact ⟨k + 1, by omega, by omega, by go_num, ⟨_, rfl, hb1, hb2, HX2⟩, (by first | rfl | trivial), HF2⟩
            case measure => simp [intOf]; omega
      · have t5 : decide ((5 : Int) ≤ (k : Int)) = true := by simp; omega
        have t8 : ((k : Int) == 8) = false := by simp; omega
        obtain ⟨hlen, hwd, hok⟩ := row_mid hq R
        rw [hlen] at hstep
        have HOF := Lib.hid (show ∀ j e, okWord R k j e → B + offP R k j e = x + j * 1 + e from fun j e h => by rw [hoff j e h, hwd, hx0]; omega)
        have HWD := Lib.hid hok
        have HSTEP := Lib.hid (show B + begP (k + 1) R = x + R * 1 from by rw [hstep, hx0]; omega)
        clear hstep hbb hoff hx0 hlen hwd hok
        go_wp2
        go_loopw [12, 16] (fun v c wi => ∃ j : Nat, (j : Int) ≤ R ∧ c = .int .i64 j ∧ v = .int .i64 (x + j * 1) ∧ wi = wo ∧ Hid (okWord R f s i → (k : Int) < f ∨ ((k : Int) = f ∧ (j : Int) ≤ s))) (fun _ c _ => 64 - (intOf c).toNat)
        case atStart => exact ⟨0, by omega, rfl, by simp, (by first | rfl | trivial), Lib.hid (fun h => by
          have h1 := HF.out h
          have h2 := HRG.out h
          omega)⟩
        case round =>
          obtain ⟨j, hj, rfl, rfl, rfl, HG⟩ := hrel
          obtain ⟨wm, rfl⟩ : ∃ wm, wm = wr := ⟨_, rfl⟩
          by_cases hjn : (j : Int) < R
          · have t1 : decide ((j : Int) < R) = true := by simpa using hjn
            have hj64 : j < 64 := by omega
            have hxj : x + (j : Int) * 1 ≤ 100800 := by omega
            have hxj0 : 0 ≤ x + (j : Int) * 1 := by omega
            obtain ⟨y, ey⟩ : ∃ y, x + (j : Int) * 1 = y := ⟨_, rfl⟩
            have HY := Lib.hid ey
            rw [ey] at hxj hxj0
            rw [ey]
            clear ey
            go_wp2
            go_loopw [12, 17] (fun v c wi => ∃ e : Nat, (e : Int) ≤ 1 ∧ c = .int .i64 e ∧ v = .int .i64 (y + e) ∧ wi = wm ∧ Hid (okWord R f s i → (k : Int) < f ∨ ((k : Int) = f ∧ ((j : Int) < s ∨ ((j : Int) = s ∧ (e : Int) ≤ i))))) (fun _ c _ => 8 - (intOf c).toNat)
            case atStart => exact ⟨0, by omega, rfl, by simp, (by first | rfl | trivial), Lib.hid (fun h => by
              have h1 := HG.out h
              have h2 := HRG.out h
              omega)⟩
            case round =>
              obtain ⟨e, he, rfl, rfl, rfl, HH⟩ := hrel
              by_cases hen : (e : Int) < 1
              · have t2 : decide ((e : Int) < 1) = true := by simpa using hen
                have t2n : decide (e < 1) = true := by simp; omega
                have he8 : e < 8 := by omega
                have hye : y + (e : Int) ≤ 100900 := by omega
                have hye0 : 0 ≤ y + (e : Int) := by omega
                by_cases hm : (k : Int) = f ∧ (j : Int) = s ∧ (e : Int) = i
                · have t3 : ((k : Int) == f) = true := beq_iff_eq.2 hm.1
                  have t4 : ((j : Int) == s) = true := beq_iff_eq.2 hm.2.1
                  have t6 : ((e : Int) == i) = true := beq_iff_eq.2 hm.2.2
                  have hP : okWord R k j e := (HWD.out _ _).2 ⟨by omega, by omega, by omega, by omega⟩
                  have hP2 : okWord R f s i := by rw [← hm.1, ← hm.2.1, ← hm.2.2]; exact hP
                  obtain ⟨hV, rfl⟩ := HOK.out hP2
                  have hV2 : V = y + (e : Int) := by rw [hV, ← hm.1, ← hm.2.1, ← hm.2.2, HOF.out _ _ hP, HY.out]
                  subst hV2
                  clear hm hP hP2 hV
                  go_wp2
                  go_ret2
                  exact ⟨rfl, (by first | rfl | trivial)⟩
                · have HH2 := Lib.hid (show okWord R f s i → (k : Int) < f ∨ ((k : Int) = f ∧ ((j : Int) < s ∨ ((j : Int) = s ∧ ((e + 1 : Nat) : Int) ≤ i))) from fun h => by
                    have h1 := HH.out h
                    omega)
                  by_cases h3 : (k : Int) = f
                  · have t3 : ((k : Int) == f) = true := beq_iff_eq.2 h3
                    by_cases h4 : (j : Int) = s
                    · have t4 : ((j : Int) == s) = true := beq_iff_eq.2 h4
                      have t6 : ((e : Int) == i) = false := beq_eq_false_iff_ne.2 fun h => hm ⟨h3, h4, h⟩
                      clear hm h3 h4
                      go_wp2
                      go_roundw
                      case rel => exact ⟨e + 1, by omega, by go_num, by go_num, (by first | rfl | trivial), HH2⟩
                      case measure => simp [intOf]; omega
                    · have t4 : ((j : Int) == s) = false := beq_eq_false_iff_ne.2 h4
                      clear hm h3 h4
                      go_wp2
                      go_roundw
                      case rel => exact ⟨e + 1, by omega, by go_num, by go_num, (by first | rfl | trivial), HH2⟩
                      case measure => simp [intOf]; omega
                  · have t3 : ((k : Int) == f) = false := beq_eq_false_iff_ne.2 h3
                    clear hm h3
                    go_wp2
                    go_roundw
                    case rel => exact ⟨e + 1, by omega, by go_num, by go_num, (by first | rfl | trivial), HH2⟩
                    case measure => simp [intOf]; omega
              · have t2 : decide ((e : Int) < 1) = false := by simpa using hen
                have t2n : decide (e < 1) = false := by simp; omega
                have hew : (e : Int) = 1 := by omega
                have HG2 := Lib.hid (show okWord R f s i → (k : Int) < f ∨ ((k : Int) = f ∧ ((j + 1 : Nat) : Int) ≤ s) from fun h => by
                  have h1 := HH.out h
                  by_cases hkf : (k : Int) = f
                  · have h3 : okWord R k s i := by rw [hkf]; exact h
                    have h4 := (HWD.out _ _).1 h3
                    omega
                  · omega)
                have HV := Lib.hid (show y + (e : Int) = x + ((j + 1 : Nat) : Int) * 1 from by rw [← HY.out]; omega)
                clear hen hew
                go_wp2
                go_roundw
                case rel => exact ⟨j + 1, by omega, by go_num, by rw [HV.out], (by first | rfl | trivial), HG2⟩
                case measure => simp [intOf]; omega
          · have t1 : decide ((j : Int) < R) = false := by simpa using hjn
            have hjn2 : (j : Int) = R := by omega
            have HX2 := Lib.hid (show x + (j : Int) * 1 = B + begP (k + 1) R from by rw [HSTEP.out, hjn2])
            have HF2 := Lib.hid (show okWord R f s i → ((k + 1 : Nat) : Int) ≤ f from fun h => by
              have h1 := HG.out h
              by_cases hkf : (k : Int) = f
              · have h3 : okWord R k s i := by rw [hkf]; exact h
                have h4 := (HWD.out _ _).1 h3
                omega
              · omega)
            have hb1 : 0 ≤ x + (j : Int) * 1 := by omega
            have hb2 : x + (j : Int) * 1 ≤ 110000 := by omega
            clear hjn hjn2
            go_wp2
            go_roundw
            case rel => exact ⟨k + 1, by omega, by omega, by go_num, ⟨_, rfl, hb1, hb2, HX2⟩, (by first | rfl | trivial), HF2⟩
            case measure => simp [intOf]; omega
      · have t5 : decide ((5 : Int) ≤ (k : Int)) = true := by simp; omega
        have t8 : ((k : Int) == 8) = true := by simp; omega
        obtain ⟨hlen, hwd, hok⟩ := row_top hq R
        rw [hlen] at hstep
        have HOF := Lib.hid (show ∀ j e, okWord R k j e → B + offP R k j e = x + j * 8 + e from fun j e h => by rw [hoff j e h, hwd, hx0]; omega)
        have HWD := Lib.hid hok
        have HSTEP := Lib.hid (show B + begP (k + 1) R = x + R * 8 from by rw [hstep, hx0]; omega)
        clear hstep hbb hoff hx0 hlen hwd hok hq
        go_wp2
        go_loopw [12, 16] (fun v c wi => ∃ j : Nat, (j : Int) ≤ R ∧ c = .int .i64 j ∧ v = .int .i64 (x + j * 8) ∧ wi = wo ∧ Hid (okWord R f s i → (k : Int) < f ∨ ((k : Int) = f ∧ (j : Int) ≤ s))) (fun _ c _ => 64 - (intOf c).toNat)
        case atStart => exact ⟨0, by omega, rfl, by simp, (by first | rfl | trivial), Lib.hid (fun h => by
          have h1 := HF.out h
          have h2 := HRG.out h
          omega)⟩
        case round =>
          obtain ⟨j, hj, rfl, rfl, rfl, HG⟩ := hrel
          obtain ⟨wm, rfl⟩ : ∃ wm, wm = wr := ⟨_, rfl⟩
          by_cases hjn : (j : Int) < R
          · have t1 : decide ((j : Int) < R) = true := by simpa using hjn
            have hj64 : j < 64 := by omega
            have hxj : x + (j : Int) * 8 ≤ 100800 := by omega
            have hxj0 : 0 ≤ x + (j : Int) * 8 := by omega
            obtain ⟨y, ey⟩ : ∃ y, x + (j : Int) * 8 = y := ⟨_, rfl⟩
            have HY := Lib.hid ey
            rw [ey] at hxj hxj0
            rw [ey]
            clear ey
            go_wp2
            go_loopw [12, 17] (fun v c wi => ∃ e : Nat, (e : Int) ≤ 8 ∧ c = .int .i64 e ∧ v = .int .i64 (y + e) ∧ wi = wm ∧ Hid (okWord R f s i → (k : Int) < f ∨ ((k : Int) = f ∧ ((j : Int) < s ∨ ((j : Int) = s ∧ (e : Int) ≤ i))))) (fun _ c _ => 8 - (intOf c).toNat)
            case atStart => exact ⟨0, by omega, rfl, by simp, (by first | rfl | trivial), Lib.hid (fun h => by
              have h1 := HG.out h
              have h2 := HRG.out h
              omega)⟩
            case round =>
              obtain ⟨e, he, rfl, rfl, rfl, HH⟩ := hrel
              by_cases hen : (e : Int) < 8
              · have t2 : decide ((e : Int) < 8) = true := by simpa using hen
                have t2n : decide (e < 8) = true := by simp; omega
                have he8 : e < 8 := by omega
                have hye : y + (e : Int) ≤ 100900 := by omega
                have hye0 : 0 ≤ y + (e : Int) := by omega
                by_cases hm : (k : Int) = f ∧ (j : Int) = s ∧ (e : Int) = i
                · have t3 : ((k : Int) == f) = true := beq_iff_eq.2 hm.1
                  have t4 : ((j : Int) == s) = true := beq_iff_eq.2 hm.2.1
                  have t6 : ((e : Int) == i) = true := beq_iff_eq.2 hm.2.2
                  have hP : okWord R k j e := (HWD.out _ _).2 ⟨by omega, by omega, by omega, by omega⟩
                  have hP2 : okWord R f s i := by rw [← hm.1, ← hm.2.1, ← hm.2.2]; exact hP
                  obtain ⟨hV, rfl⟩ := HOK.out hP2
                  have hV2 : V = y + (e : Int) := by rw [hV, ← hm.1, ← hm.2.1, ← hm.2.2, HOF.out _ _ hP, HY.out]
                  subst hV2
                  clear hm hP hP2 hV
                  go_wp2
                  go_ret2
                  exact ⟨rfl, (by first | rfl | trivial)⟩
                · have HH2 := Lib.hid (show okWord R f s i → (k : Int) < f ∨ ((k : Int) = f ∧ ((j : Int) < s ∨ ((j : Int) = s ∧ ((e + 1 : Nat) : Int) ≤ i))) from fun h => by
                    have h1 := HH.out h
                    omega)
                  by_cases h3 : (k : Int) = f
                  · have t3 : ((k : Int) == f) = true := beq_iff_eq.2 h3
                    by_cases h4 : (j : Int) = s
                    · have t4 : ((j : Int) == s) = true := beq_iff_eq.2 h4
                      have t6 : ((e : Int) == i) = false := beq_eq_false_iff_ne.2 fun h => hm ⟨h3, h4, h⟩
                      clear hm h3 h4
                      go_wp2
                      go_roundw
                      case rel => exact ⟨e + 1, by omega, by go_num, by go_num, (by first | rfl | trivial), HH2⟩
                      case measure => simp [intOf]; omega
                    · have t4 : ((j : Int) == s) = false := beq_eq_false_iff_ne.2 h4
                      clear hm h3 h4
                      go_wp2
                      go_roundw
                      case rel => exact ⟨e + 1, by omega, by go_num, by go_num, (by first | rfl | trivial), HH2⟩
                      case measure => simp [intOf]; omega
                  · have t3 : ((k : Int) == f) = false := beq_eq_false_iff_ne.2 h3
                    clear hm h3
                    go_wp2
                    go_roundw
                    case rel => exact ⟨e + 1, by omega, by go_num, by go_num, (by first | rfl | trivial), HH2⟩
                    case measure => simp [intOf]; omega
              · have t2 : decide ((e : Int) < 8) = false := by simpa using hen
                have t2n : decide (e < 8) = false := by simp; omega
                have hew : (e : Int) = 8 := by omega
                have HG2 := Lib.hid (show okWord R f s i → (k : Int) < f ∨ ((k : Int) = f ∧ ((j + 1 : Nat) : Int) ≤ s) from fun h => by
                  have h1 := HH.out h
                  by_cases hkf : (k : Int) = f
                  · have h3 : okWord R k s i := by rw [hkf]; exact h
                    have h4 := (HWD.out _ _).1 h3
                    omega
                  · omega)
                have HV := Lib.hid (show y + (e : Int) = x + ((j + 1 : Nat) : Int) * 8 from by rw [← HY.out]; omega)
                clear hen hew
                go_wp2
                go_roundw
                case rel => exact ⟨j + 1, by omega, by go_num, by rw [HV.out], (by first | rfl | trivial), HG2⟩
                case measure => simp [intOf]; omega
          · have t1 : decide ((j : Int) < R) = false := by simpa using hjn
            have hjn2 : (j : Int) = R := by omega
            have HX2 := Lib.hid (show x + (j : Int) * 8 = B + begP (k + 1) R from by rw [HSTEP.out, hjn2])
            have HF2 := Lib.hid (show okWord R f s i → ((k + 1 : Nat) : Int) ≤ f from fun h => by
              have h1 := HG.out h
              by_cases hkf : (k : Int) = f
              · have h3 : okWord R k s i := by rw [hkf]; exact h
                have h4 := (HWD.out _ _).1 h3
                omega
              · omega)
            have hb1 : 0 ≤ x + (j : Int) * 8 := by omega
            have hb2 : x + (j : Int) * 8 ≤ 110000 := by omega
            clear hjn hjn2
            go_wp2
            go_roundw
            case rel => exact ⟨k + 1, by omega, by omega, by go_num, ⟨_, rfl, hb1, hb2, HX2⟩, (by first | rfl | trivial), HF2⟩
            case measure => simp [intOf]; omega
    · have t0 : decide ((k : Int) ≤ 8) = false := by simp; omega
      obtain ⟨rfl, rfl⟩ := HNO.out (fun h => by have := HF.out h; have := HRG.out h; omega)
      go_wp2
      go_ret2
      exact ⟨rfl, (by first | rfl | trivial)⟩
end

end Go.Proofs.YtiofipofbeodpaaGreatDoor
