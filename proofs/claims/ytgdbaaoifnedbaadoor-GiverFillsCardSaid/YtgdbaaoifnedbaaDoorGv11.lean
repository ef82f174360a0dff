/-
  Layer 16 (giver): the law's made; the chapter's example.
  Conditions: those that each theorem states.
-/
import Derived.Test.YtgdbaaoifnedbaaDoorGv10
import Derived.Test.YtgdbaaoifnedbaaDoorGvN
namespace Go.Proofs.YtgdbaaoifnedbaaDoor
open Go.ChangeShapes Go.WideShapes Go.ChangeAt Go.RowKit

def baseV (B R self peer own : Int) : Value := .agg #[.int .i64 B, .int .i64 R, .int .i64 self, .int .i64 peer, .int .i64 own]

set_option maxRecDepth 100000 in
set_option maxHeartbeats 1000000 in
theorem made16_no {B R self peer own : Int} (h : ¬ ok16 B R self peer own) (w : World) :
    Calls Tryd.prog 11 #[baseV B R self peer own] w fun e w' => e = .returned (.pointer none) ∧ Below w.heap.size w w' := by
  have KN := Lib.hid (fun W => new16_no h W)
  unfold plV at KN
  unfold baseV
  have HB := Lib.hid (below_al w (.cells #[.int .i64 B, .int .i64 R, .int .i64 self, .int .i64 peer, .int .i64 own] 25))
  clear h
  go_enter Tryd.func11, Tryd.ntmps11
  go_wp2_with fail
  refine (KN.out _).mono ?_
  rintro e w' ⟨rfl, hb⟩
  have HB2 := Lib.hid (below_on HB.out hb)
  clear hb
  go_wp2
  go_ret
  exact ⟨rfl, HB2.out⟩

set_option maxRecDepth 100000 in
set_option maxHeartbeats 1000000 in
theorem made16_yes {B self peer own : Int} {r : Nat} (h : ok16 B (r : Int) self peer own) (w : World) :
    Calls Tryd.prog 11 #[baseV B (r : Int) self peer own] w fun e w' => ∃ g, e = .returned (ptr g) ∧ GIs w' (fun x => w.heap.size ≤ x) g (new16 B r peer own) ∧ Below w.heap.size w w' := by
  have KN := Lib.hid (fun W => new16_yes r h W)
  unfold plV at KN
  unfold baseV
  have HB := Lib.hid (below_al w (.cells #[.int .i64 B, .int .i64 (r : Int), .int .i64 self, .int .i64 peer, .int .i64 own] 25))
  clear h
  go_enter Tryd.func11, Tryd.ntmps11
  go_wp2_with fail
  refine (KN.out _).mono ?_
  rintro e w' ⟨g, vf, vo, vl, rfl, hr, hn, hb⟩
  have HB2 := Lib.hid (below_on HB.out hb)
  have hs := HB.out.size
  have HR : Hid (GIs w' (fun x => w.heap.size ≤ x) g (new16 B r peer own)) := Lib.hid ⟨vf, vo, vl, hr, fun x hx => Nat.le_trans hs (hn x hx)⟩
  clear hb hr hn hs
  unfold ptr
  go_wp2
  go_ret
  exact ⟨g, rfl, HR.out, HB2.out⟩

/-- One access of the giver, in numbers: the giver, the words, the kicks, the list. -/
structure Run16 where
  G : Gv
  V : List Int
  K : List Int
  T : List Tch
def rn16 (E : List Int) (s : Run16) : Int := aN16 s.V E (tch16 s.G)
def ra16 (E : List Int) (s : Run16) : Option Int := (aft16 s.G (rn16 E s)).2
def rs16 (E : List Int) (s : Run16) : Run16 := ⟨(aft16 s.G (rn16 E s)).1, aV16 s.V (tch16 s.G), aK16 s.K (tch16 s.G), s.T ++ aT16 s.V E (tch16 s.G)⟩
def it16 (E : List Int) (s : Run16) : Nat → Run16
  | 0 => s
  | n + 1 => rs16 E (it16 E s n)
theorem it16_ok {E : List Int} {s : Run16} (h : Ok16 s.G) : ∀ n, Ok16 (it16 E s n).G
  | 0 => h
  | n + 1 => ok16_aft (it16_ok h n) _

/-- The example. -/
def ex16 : Run16 := ⟨sendG16 (new16 0 2 1 0) [], List.replicate 26 0, [], []⟩
theorem ex16_ok : ok16 0 ((2 : Nat) : Int) 0 1 0 := by decide
theorem ex16_steps : ∀ k, k < 10 → (it16 [0, 0] ex16 k).G.st ≠ 0 ∧ (it16 [0, 0] ex16 k).T.length ≤ 100 ∧ (it16 [0, 0] ex16 k).K.length ≤ 100 := by decide +kernel
theorem ex16_none : ∀ k, k < 9 → ra16 [0, 0] (it16 [0, 0] ex16 k) = none := by decide +kernel
theorem ex16_some : ra16 [0, 0] (it16 [0, 0] ex16 9) = some 0 := by decide +kernel
theorem ex16_end : (it16 [0, 0] ex16 10).T.length = 10 ∧ (it16 [0, 0] ex16 10).G.out = [0] ∧ (it16 [0, 0] ex16 10).G.free.length ≤ 100 := by decide +kernel

#print axioms ex16_end
end Go.Proofs.YtgdbaaoifnedbaaDoor
