/-
  The law MboxPlays: its state, and the first loop's step.
  Conditions: those that each theorem states.
-/
import Derived.Test.YtfboikefjealfaaRMb7
import Derived.Test.YtfboikefjealfaaMb17
namespace Go.Proofs.Ytfboikefjealfaa
open Go.ChangeShapes Go.WideShapes Go.ChangeAt Go.RowKit

/-- What make lays: cores without bits and words. -/
theorem made_cores (n : Nat) : (madeCells (Value.cells (.agg #[.bool false, .bool false, .bool false, .bool false, .bool false, .bool false, .bool false, .bool false, .slice none 0 0])) (n * 9)).toList = (List.zipWith rcL (List.replicate n mail0) (List.replicate n (.slice none 0 0))).flatten := by
  have hz : (Value.cells (.agg #[.bool false, .bool false, .bool false, .bool false, .bool false, .bool false, .bool false, .bool false, .slice none 0 0])) = #[.bool false, .bool false, .bool false, .bool false, .bool false, .bool false, .bool false, .bool false, .slice none 0 0] := by simp [go_sem]
  rw [hz]
  have hok : ∀ (i : Nat) (m : Mail), (List.replicate n mail0)[i]? = some m → MailOk m := by
    intro i m h
    rw [List.getElem?_replicate] at h
    split at h
    · injection h with h; subst h; exact mail0_ok
    · cases h
  have hn := zip_nine (lvs := List.replicate n (Value.slice none 0 0)) hok
  have hl := flatten_len hn
  rw [zip_len (by simp), List.length_replicate] at hl
  apply List.ext_getElem?
  intro j
  have hj : j = j / 9 * 9 + j % 9 := by omega
  by_cases hlt : j < n * 9
  · have h1 := made_at #[.bool false, .bool false, .bool false, .bool false, .bool false, .bool false, .bool false, .bool false, .slice none 0 0] 9 n (j / 9) (j % 9) rfl (by omega) (by omega)
    have hr : (List.zipWith rcL (List.replicate n mail0) (List.replicate n (Value.slice none 0 0)))[j / 9]? = some (rcL mail0 (.slice none 0 0)) := by
      rw [List.getElem?_zipWith, List.getElem?_replicate, List.getElem?_replicate, if_pos (by omega), if_pos (by omega)]
    have h2 := flatten_at hn hr (j := j % 9) (by omega)
    rw [← hj] at h1 h2
    rw [h1, h2]
    simp only [List.getElem?_toArray]
    rfl
  · rw [List.getElem?_eq_none (by simp [madeCells]; omega), List.getElem?_eq_none (by omega)]

theorem RBox.new {w : World} {n : Nat} (P : Nat → Prop) (hP : P w.heap.size) (h0 : 1 ≤ n) (h1 : n ≤ 8) :
    RBox (w.alloc (.cells (madeCells (Value.cells (.agg #[.bool false, .bool false, .bool false, .bool false, .bool false, .bool false, .bool false, .bool false, .slice none 0 0])) (n * 9)) 40)) P (List.replicate n mail0) (.slice (some ⟨w.heap.size, 0, none⟩) n n) := by
  have hrow := Row.new w 40 (madeCells (Value.cells (.agg #[.bool false, .bool false, .bool false, .bool false, .bool false, .bool false, .bool false, .bool false, .slice none 0 0])) (n * 9))
  rw [made_cores] at hrow
  refine ⟨⟨List.replicate n (.slice none 0 0), ⟨_, n, by rw [zip_len (by simp), List.length_replicate], fun _ => ⟨w.heap.size, 0, rfl, hP, hrow.lt, fun j u hu => by rw [Nat.zero_add, hrow.cell]; exact hu⟩⟩, by simp, ?_⟩, Nat.le_refl _, ?_, by simpa using h0, by simpa using h1⟩
  · intro i m lv h2 h3
    have hi : i < n := by have := lt_of_at h2; simpa using this
    rw [List.getElem?_replicate, if_pos hi] at h2 h3
    injection h2 with h2
    injection h3 with h3
    subst h2 h3
    exact ⟨Two.nil_ _ _, rfl⟩
  · intro i m h
    rw [List.getElem?_replicate] at h
    split at h
    · injection h with h; subst h; exact mail0_ok
    · cases h

/-- The state of the law's loops: the mailboxes, the reference's, and that they lie apart. -/
structure PlayB (w wr : World) (L : MLay) (n : Nat) (ms ns : List Mail) (v : Value) : Prop where
  box : BoxAt wr L ms
  ref : RBox wr (fun b => ¬ L.fp n b) ns v
  len : ms.length = n
  below : Below w.heap.size w wr
  new : ∀ k, L.fp n k → w.heap.size ≤ k

section
variable {w wr w2 : World} {L : MLay} {n : Nat} {ms ms' ns : List Mail} {v : Value}
theorem PlayB.quiet (s : PlayB w wr L n ms ns v) (hb : Below wr.heap.size wr w2) : PlayB w w2 L n ms ns v :=
  ⟨s.box.below hb, s.ref.below hb, s.len, below_on s.below hb, s.new⟩
/-- Behind a call of the mailboxes. -/
theorem PlayB.step (s : PlayB w wr L n ms ns v) (r : BoxAt w2 L ms') (hl : ms'.length = ms.length) (ho : Only (L.fp ms'.length) wr w2) : PlayB w w2 L n ms' ns v := by
  rw [hl, s.len] at ho
  exact ⟨r, s.ref.only ho (fun g h hp => hp h), hl.trans s.len, Only.below s.below ho s.below.size (fun k hk h => by have := s.new k h; omega), s.new⟩
/-- Behind a call of the reference. -/
theorem PlayB.mid {u : Value} {ns' : List Mail} (s : PlayB w wr L n ms ns v) (r : RBox w2 (fun b => ¬ L.fp n b) ns' u) (hb : Below wr.heap.size wr w2) : PlayB w w2 L n ms ns' u :=
  ⟨s.box.below hb, r, s.len, below_on s.below hb, s.new⟩
theorem PlayB.far (s : PlayB w wr L n ms ns v) {b : Nat} (hb : wr.heap.size ≤ b) : ¬ L.fp n b := by
  have := s.box.new_not hb
  rwa [s.len] at this
end

/-- With the first mailboxes emptied. -/
def emp (ms : List Mail) (j : Nat) : List Mail := ms.mapIdx fun i m => if i < j then (m.1, []) else m
theorem emp_len (ms : List Mail) (j : Nat) : (emp ms j).length = ms.length := by simp [emp]
theorem emp_zero (ms : List Mail) : emp ms 0 = ms := by
  apply List.ext_getElem?
  intro i
  simp only [emp, List.getElem?_mapIdx]
  cases ms[i]? <;> simp
theorem emp_at {ms : List Mail} {j : Nat} {m : Mail} (h : ms[j]? = some m) : (emp ms j)[j]? = some m := by simp [emp, List.getElem?_mapIdx, h]
theorem emp_next {ms : List Mail} {j : Nat} {m : Mail} (h : ms[j]? = some m) : (emp ms j).set j (m.1, []) = emp ms (j + 1) := by
  apply List.ext_getElem?
  intro i
  rw [List.getElem?_set]
  simp only [emp, List.getElem?_mapIdx, List.length_mapIdx]
  by_cases e : j = i
  · subst e
    rw [if_pos rfl, if_pos (lt_of_at h), h]
    simp
  · rw [if_neg e]
    cases hi : ms[i]? with
    | none => rfl
    | some x =>
      have : (i < j + 1) = (i < j) := propext (by omega)
      simp [this]

theorem mAt_of {ms : List Mail} {j : Nat} {m : Mail} (h : ms[j]? = some m) : mAt ms (j : Int) = m := by
  unfold mAt
  rw [Int.toNat_natCast, List.getD_eq_getElem?_getD, h]
  rfl

/-- A Take of the laws at core j, of a mailbox that is not empty. -/
theorem do9_take (L : MLay) (ms : List Mail) (j : Nat) (b : List Bool) (y1 y2 : Int) (q : List (Int × Int)) (w : World) (r : BoxAt w L ms) (hm : ms[j]? = some (b, (y1, y2) :: q)) :
    Calls Try.prog 11 #[.pointer (some ⟨L.g, 0, none⟩), opV9 3 (j : Int) 0 0] w (BoxP L (ms.set j (b, q)) (doV9 y1 y2 0) w) := by
  have h := do9_any L ms 3 j 0 0 w r
  have hj := lt_of_at hm
  have e := mAt_of hm
  have e1 : dMs ms 3 j 0 0 = ms.set j (b, q) := by
    show tkMs ms j = _
    unfold tkMs
    rw [if_pos (cIs_nat hj), Int.toNat_natCast, e]
    rfl
  obtain ⟨_, e2, e3, e4⟩ := ord_take (t := 0) (x := 0) hj (show (mAt ms j).2 = (y1, y2) :: q by rw [e])
  rw [e1, e2, e3, e4] at h
  exact h

theorem waits_out {L : MLay} {ms : List Mail} {c : Int} {w : World} (r : BoxAt w L ms) (hc : cIs ms.length c = false) : Calls Try.prog 14 #[.pointer (some ⟨L.g, 0, none⟩), .int .i64 c] w (TellP (.int .i64 0) w) := by
  have h := waits9_any L ms c w r
  unfold wtV at h
  rw [hc] at h
  exact h

#print axioms RBox.new
#print axioms do9_take
end Go.Proofs.Ytfboikefjealfaa
