/-
  The state of the law MboxOrder's loop (OrdB), and what calls make of a core's mailbox, case by case.
  Conditions: those that each theorem states.
-/
import Derived.Test.YtfboikefjealfaaMb15
import Derived.Test.YtfboikefjealfaaArgs
namespace Go.Proofs.Ytfboikefjealfaa
open Go.ChangeShapes Go.WideShapes Go.ChangeAt Go.RowKit

/-- Items as pairs of cells. -/
def its (l : List (Int × Int)) : List (Value × Value) := l.map fun p => (.int .i64 p.1, .int .i64 p.2)
theorem its_len (l : List (Int × Int)) : (its l).length = l.length := by simp [its]
theorem its_append (a b : List (Int × Int)) : its (a ++ b) = its a ++ its b := by simp [its]
theorem its_at {l : List (Int × Int)} {k : Nat} {p : Int × Int} (h : l[k]? = some p) : (its l)[k]? = some (.int .i64 p.1, .int .i64 p.2) := by simp [its, h]
theorem it_info : (Try.prog.info? 32).map (fun i => (i.zero, i.size, i.bytes)) = some (some (.agg #[.int .i64 0, .int .i64 0]), 2, 16) := by kernel_rfl
theorem it_one (a b : Int) : ∀ u ∈ flat [(Value.int .i64 a, Value.int .i64 b)], u.oneCell' = true := by
  intro u hu
  simp only [flat, List.mem_cons, List.not_mem_nil, or_false] at hu
  rcases hu with rfl | rfl <;> rfl

set_option maxRecDepth 100000 in
theorem eql_it (a b c d : Int) (W : World) : (binOp .eql 32 (.agg #[.int .i64 a, .int .i64 b]) (.agg #[.int .i64 c, .int .i64 d])).run Try.prog W = .ok (.bool (a == c && b == d)) W := by
  have u3 := Try.underlying3
  have a3 := Try.isAgg3
  have z3 := Try.sizeOf3
  have hS : Try.prog.underlying 32 = some (.struct (Try.prog.fieldsOf 32)) := by kernel_rfl
  have hp : Try.prog.stoodInHeld 32 = false := by kernel_rfl
  rw [run_eql_struct, show (10000 : Nat) = 9999 + 1 from rfl, run_equalIn_agg W 9999 32 _ _ hS hp]
  simp only [Program.fieldsOf, Try.underlying32]
  go_simp
  by_cases h1 : a = c <;> by_cases h2 : b = d <;> simp [h1, h2]

set_option maxRecDepth 100000 in
theorem neq_it (a b c d : Int) (W : World) : (binOp .neq 32 (.agg #[.int .i64 a, .int .i64 b]) (.agg #[.int .i64 c, .int .i64 d])).run Try.prog W = .ok (.bool (!(a == c && b == d))) W := by
  have h := eql_it a b c d W
  rw [run_eql_struct] at h
  rw [run_neq_struct]
  cases hr : (Op.equalIn 10000 32 (.agg #[.int .i64 a, .int .i64 b]) (.agg #[.int .i64 c, .int .i64 d])).run Try.prog W with
  | ok r w' =>
    rw [hr] at h
    simp only [Result.andThen_ok] at h ⊢
    injection h with h1 h2
    injection h1 with h1
    rw [h1, h2]
  | halt x w' =>
    rw [hr] at h
    simp [Result.andThen] at h

theorem neq_it_same (x y : Int) (W : World) : (binOp .neq 32 (.agg #[.int .i64 x, .int .i64 y]) (.agg #[.int .i64 x, .int .i64 y])).run Try.prog W = .ok (.bool false) W := by
  rw [neq_it]; simp

/-- The memory of the law's loop: the mailboxes, the lists of what was rung and of what was taken, and that they lie apart. -/
structure OrdB (w wr : World) (L : MLay) (ms : List Mail) (p t : List (Int × Int)) (vp vt : Value) : Prop where
  box : BoxAt wr L ms
  put : wr.ownsRow w.heap.size 32 2 vp p.length (flat (its p))
  tak : wr.ownsRow w.heap.size 32 2 vt t.length (flat (its t))
  apart : ∀ k, vp.ownBlock = some k → ¬ L.fp ms.length k ∧ vt.ownBlock ≠ some k
  apart' : ∀ k, vt.ownBlock = some k → ¬ L.fp ms.length k
  below : Below w.heap.size w wr
  new : ∀ k, L.fp ms.length k → w.heap.size ≤ k

section
variable {w wr w2 w3 : World} {L : MLay} {ms ms' : List Mail} {p t : List (Int × Int)} {vp vt v3 : Value}

theorem OrdB.quiet (s : OrdB w wr L ms p t vp vt) (hb : Below wr.heap.size wr w2) : OrdB w w2 L ms p t vp vt :=
  ⟨s.box.below hb, own_only s.put (Only.of_below hb (fun _ => False)) (fun _ _ h => h), own_only s.tak (Only.of_below hb (fun _ => False)) (fun _ _ h => h), s.apart, s.apart', below_on s.below hb, s.new⟩

/-- Behind a call of the mailboxes. -/
theorem OrdB.step (s : OrdB w wr L ms p t vp vt) (r : BoxAt w2 L ms') (hl : ms'.length = ms.length) (ho : Only (L.fp ms'.length) wr w2) : OrdB w w2 L ms' p t vp vt := by
  rw [hl] at ho
  refine ⟨r, own_only s.put ho (fun k hk => (s.apart k hk).1), own_only s.tak ho s.apart', ?_, ?_, Only.below s.below ho s.below.size (fun k hk h => by have := s.new k h; omega), ?_⟩
  · rw [hl]; exact s.apart
  · rw [hl]; exact s.apart'
  · rw [hl]; exact s.new

/-- Behind an append to what was rung. -/
theorem OrdB.moreP {x : Int × Int} (s : OrdB w wr L ms p t vp vt) (hg3 : wr.grownBy w3 vp.ownBlock) (hown : w3.ownsRow w.heap.size 32 2 v3 (p.length + 1) (flat (its (p ++ [x]))))
    (hat : v3.ownBlock = vp.ownBlock ∨ v3.ownBlock = some wr.heap.size) : OrdB w w3 L ms (p ++ [x]) t v3 vt := by
  have hO := Only.of_own hg3
  have htl : ∀ k, vt.ownBlock = some k → k < wr.heap.size := fun k hk => (s.tak.lt k hk).2
  refine ⟨s.box.only hO (fun k hf e => (s.apart k e).1 hf), by rw [List.length_append]; exact hown, own_only s.tak hO (fun k hk e => (s.apart k e).2 hk), fun k hk => ?_, s.apart', Only.below s.below hO s.below.size (fun y hy e => by have := (s.put.lt y e).1; omega), s.new⟩
  rcases hat with e | e
  · exact s.apart k (by rw [← e]; exact hk)
  · rw [e] at hk
    injection hk with hk
    exact ⟨fun hf => by have := s.box.fp_lt hf; omega, fun e2 => by have := htl k e2; omega⟩

/-- Behind an append to what was taken. -/
theorem OrdB.moreT {x : Int × Int} (s : OrdB w wr L ms p t vp vt) (hg3 : wr.grownBy w3 vt.ownBlock) (hown : w3.ownsRow w.heap.size 32 2 v3 (t.length + 1) (flat (its (t ++ [x]))))
    (hat : v3.ownBlock = vt.ownBlock ∨ v3.ownBlock = some wr.heap.size) : OrdB w w3 L ms p (t ++ [x]) vp v3 := by
  have hO := Only.of_own hg3
  have hpl : ∀ k, vp.ownBlock = some k → k < wr.heap.size := fun k hk => (s.put.lt k hk).2
  refine ⟨s.box.only hO (fun k hf e => s.apart' k e hf), own_only s.put hO (fun k hk e => (s.apart k hk).2 e), by rw [List.length_append]; exact hown, fun k hk => ⟨(s.apart k hk).1, fun e2 => ?_⟩, fun k hk hf => ?_, Only.below s.below hO s.below.size (fun y hy e => by have := (s.tak.lt y e).1; omega), s.new⟩
  · rcases hat with e | e
    · exact (s.apart k hk).2 (by rw [← e]; exact e2)
    · rw [e] at e2
      injection e2 with e2
      have := hpl k hk
      omega
  · rcases hat with e | e
    · exact s.apart' k (by rw [← e]; exact hk) hf
    · rw [e] at hk
      injection hk with hk
      have := s.box.fp_lt hf
      omega
end

theorem ownB_open {w : World} {base : Nat} {vp : Value} {p : List (Int × Int)} (h : w.ownsRow base 32 2 vp p.length (flat (its p))) : ∃ A n c, vp = .slice A n c ∧ p.length = n ∧ CapOk (.slice A n c) ∧ Two w (fun b => vp.ownBlock = some b) (.slice A n c) (its p) := by
  have h1 := Two.of_own h
  have h2 := CapOk.of_own h
  obtain ⟨A, n, c, rfl, HN, HT⟩ := h1.open_
  exact ⟨A, n, c, rfl, by have := HN.out; rwa [its_len] at this, h2, HT.out⟩

/-- The call's block behind the call. -/
theorem op_row9 {w w2 : World} {K c t x : Int} {L : MLay} {ms : List Mail} {n : Nat} (r : BoxAt w L ms) (hn : n = ms.length) (ho : Only (L.fp n) (w.alloc (.cells #[.int .i64 K, .int .i64 c, .int .i64 t, .int .i64 x] 30)) w2) : Row w2 w.heap.size 30 [.int .i64 K, .int .i64 c, .int .i64 t, .int .i64 x] := by
  subst hn
  exact (Row.new w 30 #[.int .i64 K, .int .i64 c, .int .i64 t, .int .i64 x]).only ho (r.new_not (Nat.le_refl _))

/-! ### What calls make of core o's mailbox -/

theorem mAt_set {ms : List Mail} {i o : Nat} {y : Mail} (hi : i < ms.length) : mAt (ms.set i y) (o : Int) = if i = o then y else mAt ms (o : Int) := by
  unfold mAt
  rw [Int.toNat_natCast, List.getD_eq_getElem?_getD, List.getElem?_set]
  by_cases e : i = o
  · rw [if_pos e, if_pos hi, if_pos e]
    rfl
  · rw [if_neg e, if_neg e, ← List.getD_eq_getElem?_getD]

theorem rg_at {ms : List Mail} {c x : Int} {t : Int} {o : Nat} (ho : o < ms.length) : mAt (rgMs ms c t x) (o : Int) = if t = o ∧ cIs ms.length c = true ∧ okW x = true then ((mAt ms o).1.set c.toNat true, rgQ (mAt ms o).2 (c, x)) else mAt ms o := by
  unfold rgMs
  by_cases h : cIs ms.length t = true
  · obtain ⟨i, rfl, hi, _⟩ := core_at h
    by_cases h2 : cIs ms.length c = true
    · by_cases h3 : okW x = true
      · rw [h, h2, h3]
        simp only [Bool.and_self, if_true, and_self, and_true, Int.toNat_natCast]
        rw [mAt_set hi]
        by_cases e : i = o
        · subst e; simp
        · rw [if_neg e, if_neg (by omega)]
      · simp [h, h2, h3]
    · simp [h, h2]
  · have : t ≠ o := by
      rintro rfl
      exact h (cIs_nat ho)
    simp [h, this]

theorem ak_at {ms : List Mail} {c x : Int} {o : Nat} (ho : o < ms.length) : mAt (akMs ms c x) (o : Int) = if c = o then (clrB (mAt ms o).1 x, (mAt ms o).2) else mAt ms o := by
  unfold akMs
  by_cases h : cIs ms.length c = true
  · obtain ⟨i, rfl, hi, _⟩ := core_at h
    rw [if_pos h, Int.toNat_natCast, mAt_set hi]
    by_cases e : i = o
    · subst e; simp
    · rw [if_neg e, if_neg (by omega)]
  · have : c ≠ o := by
      rintro rfl
      exact h (cIs_nat ho)
    rw [if_neg h, if_neg this]

theorem tk_at {ms : List Mail} {c : Int} {o : Nat} (ho : o < ms.length) : mAt (tkMs ms c) (o : Int) = if c = o then ((mAt ms o).1, (mAt ms o).2.tail) else mAt ms o := by
  unfold tkMs
  by_cases h : cIs ms.length c = true
  · obtain ⟨i, rfl, hi, _⟩ := core_at h
    rw [if_pos h, Int.toNat_natCast, mAt_set hi]
    by_cases e : i = o
    · subst e; simp
    · rw [if_neg e, if_neg (by omega)]
  · have : c ≠ o := by
      rintro rfl
      exact h (cIs_nat ho)
    rw [if_neg h, if_neg this]

section
variable {ms : List Mail} {c t x K : Int} {o : Nat}
theorem ord_full (ho : o < ms.length) (hc : cIs ms.length c = true) (hx : okW x = true) (hq : (mAt ms o).2.length = 16) : mAt (dMs ms 0 c o x) o = ((mAt ms o).1.set c.toNat true, (mAt ms o).2) ∧ dE ms 0 c o x = 5 := by
  have h1 := rg_at (t := (o : Int)) (c := c) (x := x) ho
  rw [if_pos ⟨rfl, hc, hx⟩] at h1
  have h2 : rgQ (mAt ms o).2 (c, x) = (mAt ms o).2 := if_pos hq
  rw [h2] at h1
  refine ⟨h1, ?_⟩
  show rgErr ms c o x = 5
  unfold rgErr
  rw [cIs_nat ho, hc, hx]
  exact if_pos hq
theorem ord_room (ho : o < ms.length) (hc : cIs ms.length c = true) (hx : okW x = true) (hq : (mAt ms o).2.length ≠ 16) : mAt (dMs ms 0 c o x) o = ((mAt ms o).1.set c.toNat true, (mAt ms o).2 ++ [(c, x)]) ∧ dE ms 0 c o x = 0 := by
  have h1 := rg_at (t := (o : Int)) (c := c) (x := x) ho
  rw [if_pos ⟨rfl, hc, hx⟩] at h1
  have h2 : rgQ (mAt ms o).2 (c, x) = (mAt ms o).2 ++ [(c, x)] := if_neg hq
  rw [h2] at h1
  refine ⟨h1, ?_⟩
  show rgErr ms c o x = 0
  unfold rgErr
  rw [cIs_nat ho, hc, hx]
  exact if_neg hq
theorem ord_bad (ho : o < ms.length) (h : ¬ (cIs ms.length c = true ∧ okW x = true)) : mAt (dMs ms 0 c o x) o = mAt ms o ∧ (dE ms 0 c o x == 0) = false ∧ (dE ms 0 c o x == 5) = false := by
  have h1 := rg_at (t := (o : Int)) (c := c) (x := x) ho
  rw [if_neg (fun hh => h hh.2)] at h1
  have h2 : rgErr ms c o x = 3 ∨ rgErr ms c o x = 2 := by
    unfold rgErr
    rw [cIs_nat ho]
    by_cases hc : cIs ms.length c = true
    · by_cases hx : okW x = true
      · exact absurd ⟨hc, hx⟩ h
      · simp [hc, hx]
    · simp [hc]
  refine ⟨h1, ?_⟩
  show (rgErr ms c o x == 0) = false ∧ (rgErr ms c o x == 5) = false
  rcases h2 with h2 | h2 <;> rw [h2] <;> decide
theorem ord_far (ho : o < ms.length) (h : t ≠ o) : mAt (dMs ms 0 c t x) o = mAt ms o := by
  have h1 := rg_at (t := t) (c := c) (x := x) ho
  rwa [if_neg (fun hh => h hh.1)] at h1
theorem ord_ack (ho : o < ms.length) : mAt (dMs ms 2 o t x) o = (clrB (mAt ms o).1 x, (mAt ms o).2) := by
  have h1 := ak_at (c := (o : Int)) (x := x) ho
  rwa [if_pos rfl] at h1
theorem ord_ackfar (ho : o < ms.length) (h : c ≠ o) : mAt (dMs ms 2 c t x) o = mAt ms o := by
  have h1 := ak_at (c := c) (x := x) ho
  rwa [if_neg h] at h1
theorem ord_take {y : Int × Int} {q : List (Int × Int)} (ho : o < ms.length) (hq : (mAt ms o).2 = y :: q) : mAt (dMs ms 3 o t x) o = ((mAt ms o).1, q) ∧ dE ms 3 o t x = 0 ∧ dF ms 3 o = y.1 ∧ dW ms 3 o = y.2 := by
  have h1 := tk_at (c := (o : Int)) ho
  rw [if_pos rfl, hq] at h1
  refine ⟨h1, ?_, ?_, ?_⟩
  · show tkE9 ms o = 0
    unfold tkE9
    rw [if_pos (cIs_nat ho), hq]
    simp [tkE]
  · show tkF9 ms o = y.1
    unfold tkF9
    rw [if_pos (cIs_nat ho), hq]
    rfl
  · show tkW9 ms o = y.2
    unfold tkW9
    rw [if_pos (cIs_nat ho), hq]
    rfl
theorem ord_none (ho : o < ms.length) (hq : (mAt ms o).2 = []) : mAt (dMs ms 3 o t x) o = mAt ms o ∧ dE ms 3 o t x = 6 := by
  have h1 := tk_at (c := (o : Int)) ho
  rw [if_pos rfl, hq] at h1
  refine ⟨h1.trans (Prod.ext rfl hq.symm), ?_⟩
  show tkE9 ms o = 6
  unfold tkE9
  rw [if_pos (cIs_nat ho), hq]
  rfl
theorem ord_takefar (ho : o < ms.length) (h : c ≠ o) : mAt (dMs ms 3 c t x) o = mAt ms o := by
  have h1 := tk_at (c := c) ho
  rwa [if_neg h] at h1
theorem ord_else (h0 : K ≠ 0) (h2 : K ≠ 2) (h3 : K ≠ 3) (h4 : K ≠ 4) : mAt (dMs ms K c t x) o = mAt ms o := by
  unfold dMs
  rw [if_neg h0, if_neg h2, if_neg h3, if_neg h4]
end

/-- What Pending and Waits tell of core o. -/
theorem pend_o {L : MLay} {ms : List Mail} {o : Nat} {b : Int} {w : World} (r : BoxAt w L ms) (ho : o < ms.length) (hb : maskB (mAt ms o).1 = b) : Calls Try.prog 12 #[.pointer (some ⟨L.g, 0, none⟩), .int .i64 (o : Int)] w (TellP (.tuple #[.int .i64 b, .int .i64 0]) w) := by
  have h := pend9_any L ms o w r
  unfold pdV cE at h
  rw [if_pos (cIs_nat ho), if_pos (cIs_nat ho), hb] at h
  exact h
theorem waits_o {L : MLay} {ms : List Mail} {o l : Nat} {w : World} (r : BoxAt w L ms) (ho : o < ms.length) (hl : (mAt ms o).2.length = l) : Calls Try.prog 14 #[.pointer (some ⟨L.g, 0, none⟩), .int .i64 (o : Int)] w (TellP (.int .i64 (l : Int)) w) := by
  have h := waits9_any L ms o w r
  unfold wtV at h
  rw [if_pos (cIs_nat ho), hl] at h
  exact h
theorem ok_o {L : MLay} {ms : List Mail} {o : Nat} {w : World} (r : BoxAt w L ms) (ho : o < ms.length) : MailOk (mAt ms o) := by
  obtain ⟨i, e, hi, hm⟩ := core_at (cIs_nat ho)
  exact r.ok i _ hm

#print axioms OrdB.moreP
#print axioms OrdB.moreT
#print axioms ord_room
#print axioms neq_it
end Go.Proofs.Ytfboikefjealfaa
