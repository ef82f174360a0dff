/-
  Layer 9 (mbox): the methods at any core, in numbers.
  Conditions: those that each theorem states.
-/
import Derived.Test.YtfboikefjealfaaMb8
namespace Go.Proofs.Ytfboikefjealfaa
open Go.ChangeShapes Go.WideShapes Go.ChangeAt Go.RowKit

/-- A core's mailbox; whether a word is one. -/
def mAt (ms : List Mail) (c : Int) : Mail := ms.getD c.toNat mail0
def okW (x : Int) : Bool := decide (0 ≤ x ∧ x ≤ 65535)
def cE (ms : List Mail) (c : Int) : Int := if cIs ms.length c then 0 else 3

def rgMs (ms : List Mail) (f c x : Int) : List Mail := if cIs ms.length c && cIs ms.length f && okW x then ms.set c.toNat ((mAt ms c).1.set f.toNat true, rgQ (mAt ms c).2 (f, x)) else ms
def rgErr (ms : List Mail) (f c x : Int) : Int := if cIs ms.length c && cIs ms.length f then (if okW x then rgE (mAt ms c).2 else 2) else 3
def pdV (ms : List Mail) (c : Int) : Int := if cIs ms.length c then maskB (mAt ms c).1 else 0
def wtV (ms : List Mail) (c : Int) : Int := if cIs ms.length c then (mAt ms c).2.length else 0
def akMs (ms : List Mail) (c x : Int) : List Mail := if cIs ms.length c then ms.set c.toNat (clrB (mAt ms c).1 x, (mAt ms c).2) else ms
def tkMs (ms : List Mail) (c : Int) : List Mail := if cIs ms.length c then ms.set c.toNat ((mAt ms c).1, (mAt ms c).2.tail) else ms
def tkF9 (ms : List Mail) (c : Int) : Int := if cIs ms.length c then tkF (mAt ms c).2 else 0
def tkW9 (ms : List Mail) (c : Int) : Int := if cIs ms.length c then tkW (mAt ms c).2 else 0
def tkE9 (ms : List Mail) (c : Int) : Int := if cIs ms.length c then tkE (mAt ms c).2 else 3
def rsMs (ms : List Mail) (c : Int) : List Mail := if cIs ms.length c then ms.set c.toNat mail0 else ms

theorem okW_no {x : Int} (h : okW x = false) : x < 0 ∨ 65535 < x := by
  have : ¬ (0 ≤ x ∧ x ≤ 65535) := by simpa [okW] using h
  omega

theorem rgMs_len (ms : List Mail) (f c x : Int) : (rgMs ms f c x).length = ms.length := by unfold rgMs; split <;> simp
theorem akMs_len (ms : List Mail) (c x : Int) : (akMs ms c x).length = ms.length := by unfold akMs; split <;> simp
theorem tkMs_len (ms : List Mail) (c : Int) : (tkMs ms c).length = ms.length := by unfold tkMs; split <;> simp
theorem rsMs_len (ms : List Mail) (c : Int) : (rsMs ms c).length = ms.length := by unfold rsMs; split <;> simp

theorem core_at {ms : List Mail} {c : Int} (h : cIs ms.length c = true) : ∃ i : Nat, c = i ∧ i < ms.length ∧ ms[i]? = some (mAt ms c) := by
  obtain ⟨h0, h1⟩ := cIs_yes h
  obtain ⟨i, rfl⟩ := Int.eq_ofNat_of_zero_le h0
  have hi : i < ms.length := by omega
  refine ⟨i, rfl, hi, ?_⟩
  unfold mAt
  rw [Int.toNat_natCast, List.getD_eq_getElem?_getD, List.getElem?_eq_getElem hi]
  rfl

theorem TellP.box {L : MLay} {ms : List Mail} {a : Value} {w w' : World} {e : Ending} (h : TellP a w e w') (r : BoxAt w L ms) : BoxP L ms a w e w' := ⟨h.1, r.below h.2, Only.of_below h.2 _⟩

theorem pend9_any (L : MLay) (ms : List Mail) (c : Int) (w : World) (r : BoxAt w L ms) :
    Calls Try.prog 12 #[.pointer (some ⟨L.g, 0, none⟩), .int .i64 c] w (TellP (.tuple #[.int .i64 (pdV ms c), .int .i64 (cE ms c)]) w) := by
  unfold pdV cE
  by_cases h : cIs ms.length c = true
  · rw [if_pos h, if_pos h]
    obtain ⟨i, e, hi, hm⟩ := core_at h
    have := pend9_ok L ms i _ w r hm
    rwa [← e] at this
  · rw [if_neg h, if_neg h]
    exact pend9_no L ms c w r (by simpa using h)

theorem waits9_any (L : MLay) (ms : List Mail) (c : Int) (w : World) (r : BoxAt w L ms) :
    Calls Try.prog 14 #[.pointer (some ⟨L.g, 0, none⟩), .int .i64 c] w (TellP (.int .i64 (wtV ms c)) w) := by
  unfold wtV
  by_cases h : cIs ms.length c = true
  · rw [if_pos h]
    obtain ⟨i, e, hi, hm⟩ := core_at h
    have := waits9_ok L ms i _ w r hm
    rwa [← e] at this
  · rw [if_neg h]
    exact waits9_no L ms c w r (by simpa using h)

theorem ack9_any (L : MLay) (ms : List Mail) (c x : Int) (w : World) (r : BoxAt w L ms) :
    Calls Try.prog 20 #[.pointer (some ⟨L.g, 0, none⟩), .int .i64 c, .int .i64 x] w (BoxP L (akMs ms c x) (.int .i64 (cE ms c)) w) := by
  unfold akMs cE
  by_cases h : cIs ms.length c = true
  · rw [if_pos h, if_pos h]
    obtain ⟨i, e, hi, hm⟩ := core_at h
    have := ack9_ok L ms i _ x w r hm
    have e2 : c.toNat = i := by omega
    rw [e2]
    rwa [← e] at this
  · rw [if_neg h, if_neg h]
    exact (ack9_no L ms c x w r (by simpa using h)).mono (fun _ _ h => h.box r)

theorem take9_any (L : MLay) (ms : List Mail) (c : Int) (w : World) (r : BoxAt w L ms) :
    Calls Try.prog 19 #[.pointer (some ⟨L.g, 0, none⟩), .int .i64 c] w (BoxP L (tkMs ms c) (.tuple #[.int .i64 (tkF9 ms c), .int .i64 (tkW9 ms c), .int .i64 (tkE9 ms c)]) w) := by
  unfold tkMs tkF9 tkW9 tkE9
  by_cases h : cIs ms.length c = true
  · rw [if_pos h, if_pos h, if_pos h, if_pos h]
    obtain ⟨i, e, hi, hm⟩ := core_at h
    have := take9_ok L ms i _ w r hm
    have e2 : c.toNat = i := by omega
    rw [e2]
    rwa [← e] at this
  · rw [if_neg h, if_neg h, if_neg h, if_neg h]
    exact (take9_no L ms c w r (by simpa using h)).mono (fun _ _ h => h.box r)

theorem reset9_any (L : MLay) (ms : List Mail) (c : Int) (w : World) (r : BoxAt w L ms) :
    Calls Try.prog 26 #[.pointer (some ⟨L.g, 0, none⟩), .int .i64 c] w (BoxP L (rsMs ms c) (.tuple #[.int .i64 (wtV ms c), .int .i64 (cE ms c)]) w) := by
  unfold rsMs wtV cE
  by_cases h : cIs ms.length c = true
  · rw [if_pos h, if_pos h, if_pos h]
    obtain ⟨i, e, hi, hm⟩ := core_at h
    have := reset9_ok L ms i _ w r hm
    have e2 : c.toNat = i := by omega
    rw [e2]
    rwa [← e] at this
  · rw [if_neg h, if_neg h, if_neg h]
    exact (reset9_no L ms c w r (by simpa using h)).mono (fun _ _ h => h.box r)

theorem ring9_any (L : MLay) (ms : List Mail) (f c x : Int) (w : World) (r : BoxAt w L ms) :
    Calls Try.prog 18 #[.pointer (some ⟨L.g, 0, none⟩), .int .i64 f, .int .i64 c, .int .i64 x] w (BoxP L (rgMs ms f c x) (.int .i64 (rgErr ms f c x)) w) := by
  unfold rgMs rgErr
  by_cases h : cIs ms.length c = true
  · obtain ⟨i, e, hi, hm⟩ := core_at h
    have e2 : c.toNat = i := by omega
    by_cases h2 : cIs ms.length f = true
    · by_cases h3 : okW x = true
      · rw [h, h2, h3]
        simp only [Bool.and_self, if_true]
        have hf := cIs_yes h2
        obtain ⟨k, rfl⟩ := Int.eq_ofNat_of_zero_le hf.1
        rw [e2, Int.toNat_natCast]
        have := ring9_of L ms (ms.set i ((mAt ms c).1.set k true, rgQ (mAt ms c).2 ((k : Int), x))) i k x (rgE (mAt ms c).2) w r hi
          (fun W hb c1 c2 c3 => ringC_ok L ms i (mAt ms c) k x _ _ _ W (r.below hb) hm (c1.cell 0) c2 c3 (r.new_not (by omega)) (r.new_not (by omega)) (by omega) (by simpa [okW] using h3))
        rwa [← e] at this
      · have h3' : okW x = false := by simpa using h3
        rw [h, h2, h3']
        simp only [Bool.and_self, Bool.and_false, if_true, Bool.false_eq_true, if_false]
        have := ring9_of L ms ms i f x 2 w r hi
          (fun W hb c1 c2 c3 => ringC_word L ms i f x _ _ _ W (r.below hb) (c1.cell 0) (c2.cell 0) (c3.cell 0) h2 (okW_no h3'))
        rwa [← e] at this
    · have h2' : cIs ms.length f = false := by simpa using h2
      rw [h, h2']
      simp only [Bool.and_false, Bool.false_and, Bool.false_eq_true, if_false]
      have := ring9_of L ms ms i f x 3 w r hi
        (fun W hb c1 c2 c3 => ringC_from L ms i f _ _ _ W (r.below hb) (c1.cell 0) (c2.cell 0) h2')
      rwa [← e] at this
  · have h' : cIs ms.length c = false := by simpa using h
    rw [h']
    simp only [Bool.false_and, Bool.false_eq_true, if_false]
    exact (ring9_no L ms f c x w r h').mono (fun _ _ h => h.box r)

/-- A call as the laws make it: the mailboxes behind it, the sender and the word that are told, the error. -/
def dMs (ms : List Mail) (K c t x : Int) : List Mail := if K = 0 then rgMs ms c t x else if K = 2 then akMs ms c x else if K = 3 then tkMs ms c else if K = 4 then rsMs ms c else ms
def dF (ms : List Mail) (K c : Int) : Int := if K = 3 then tkF9 ms c else 0
def dW (ms : List Mail) (K c : Int) : Int := if K = 0 then 0 else if K = 2 then 0 else if K = 3 then tkW9 ms c else if K = 4 then wtV ms c else pdV ms c
def dE (ms : List Mail) (K c t x : Int) : Int := if K = 0 then rgErr ms c t x else if K = 3 then tkE9 ms c else cE ms c
theorem dMs_len (ms : List Mail) (K c t x : Int) : (dMs ms K c t x).length = ms.length := by
  unfold dMs
  split
  · exact rgMs_len _ _ _ _
  · split
    · exact akMs_len _ _ _
    · split
      · exact tkMs_len _ _
      · split
        · exact rsMs_len _ _
        · rfl

#print axioms ring9_any
#print axioms reset9_any
end Go.Proofs.Ytfboikefjealfaa
