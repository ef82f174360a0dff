/-
  Layer 17 (taker): the law's made; the chapter's example.
  Conditions: those that each theorem states.
-/
import Derived.Test.YtgdbaaoifnedbaaDoorTk7
import Derived.Test.YtgdbaaoifnedbaaDoorTkN
namespace Go.Proofs.YtgdbaaoifnedbaaDoor
open Go.ChangeShapes Go.WideShapes Go.ChangeAt Go.RowKit

def baseV17 (B R self peer own : Int) : Value := .agg #[.int .i64 B, .int .i64 R, .int .i64 self, .int .i64 peer, .int .i64 own]

set_option maxRecDepth 100000 in
set_option maxHeartbeats 1000000 in
theorem made17_no {B R self peer own : Int} (h : ¬ ok17 B R self peer own) (w : World) :
    Calls Tryd.prog 37 #[baseV17 B R self peer own] w fun e w' => e = .returned (.pointer none) ∧ Below w.heap.size w w' := by
  have KN := Lib.hid (fun W => new17_no h W)
  unfold plV at KN
  unfold baseV17
  have HB := Lib.hid (below_al w (.cells #[.int .i64 B, .int .i64 R, .int .i64 self, .int .i64 peer, .int .i64 own] 25))
  clear h
  go_enter Tryd.func37, Tryd.ntmps37
  go_wp2_with fail
  refine (KN.out _).mono ?_
  rintro e w' ⟨rfl, hb⟩
  have HB2 := Lib.hid (below_on HB.out hb)
  clear hb
  go_wp2
  go_ret
  exact ⟨rfl, HB2.out⟩

set_option maxRecDepth 100000 in
set_option maxHeartbeats 1000000 in
theorem made17_yes {B self peer own : Int} {r : Nat} (h : ok17 B (r : Int) self peer own) (w : World) :
    Calls Tryd.prog 37 #[baseV17 B (r : Int) self peer own] w fun e w' => ∃ g, e = .returned (ptr g) ∧ KIs w' (fun x => w.heap.size ≤ x) g (new17 B r peer own) ∧ Below w.heap.size w w' := by
  have KN := Lib.hid (fun W => new17_yes r h W)
  unfold plV at KN
  unfold baseV17
  have HB := Lib.hid (below_al w (.cells #[.int .i64 B, .int .i64 (r : Int), .int .i64 self, .int .i64 peer, .int .i64 own] 25))
  clear h
  go_enter Tryd.func37, Tryd.ntmps37
  go_wp2_with fail
  refine (KN.out _).mono ?_
  rintro e w' ⟨g, s, vl, vg, rfl, hr, hn, hb⟩
  have HB2 := Lib.hid (below_on HB.out hb)
  have hs := HB.out.size
  have HR : Hid (KIs w' (fun x => w.heap.size ≤ x) g (new17 B r peer own)) := Lib.hid ⟨s, vl, vg, hr, fun x hx => Nat.le_trans hs (hn x hx)⟩
  clear hb hr hn hs
  unfold ptr
  go_wp2
  go_ret
  exact ⟨g, rfl, HR.out, HB2.out⟩

/-- One access of the taker, in numbers: the taker, the words, the kicks, the list. -/
structure Run17 where
  G : Tk
  V : List Int
  K : List Int
  T : List Tch
def rn17 (E : List Int) (s : Run17) : Int := aN17 s.V E (tch17 s.G)
def ra17 (E : List Int) (s : Run17) : Option Int := (aft17 s.G (rn17 E s)).2
def rs17 (E : List Int) (s : Run17) : Run17 := ⟨(aft17 s.G (rn17 E s)).1, aV17 s.V (tch17 s.G), aK17 s.K (tch17 s.G), s.T ++ aT17 s.V E (tch17 s.G)⟩
def it17 (E : List Int) (s : Run17) : Nat → Run17
  | 0 => s
  | n + 1 => rs17 E (it17 E s n)
theorem it17_ok {E : List Int} {s : Run17} (h : Ok17 s.G) : ∀ n, Ok17 (it17 E s n).G
  | 0 => h
  | n + 1 => ok17_aft (it17_ok h n) _

/-- The example. -/
def ex17 : Run17 := ⟨recT17 (new17 0 2 0 0), List.replicate 26 0, [], []⟩
theorem ex17_ok : ok17 0 ((2 : Nat) : Int) 1 0 0 := by decide
theorem ex17_steps : ∀ k, k < 4 → (it17 [0, 0] ex17 k).G.st ≠ 0 ∧ (it17 [0, 0] ex17 k).T.length ≤ 100 ∧ (it17 [0, 0] ex17 k).K.length ≤ 100 := by decide +kernel
theorem ex17_none : ∀ k, k < 3 → ra17 [0, 0] (it17 [0, 0] ex17 k) = none := by decide +kernel
theorem ex17_some : ra17 [0, 0] (it17 [0, 0] ex17 3) = some 6 := by decide +kernel
theorem ex17_end : (it17 [0, 0] ex17 4).T.length = 4 ∧ (it17 [0, 0] ex17 4).G.st = 0 ∧ (it17 [0, 0] ex17 4).G.linked = true := by decide +kernel

#print axioms ex17_end
end Go.Proofs.YtgdbaaoifnedbaaDoor
