/-
  The law's like (layer 5): the buffer holds just the reference's stores.
  Conditions: those that each theorem states.
-/
import Derived.Test.YtnclocbbngnebaaSbuf8
namespace Go.Proofs.Ytnclocbbngnebaa
open Go.ChangeShapes Go.WideShapes Go.ChangeAt Go.RowKit

/-- What All leaves, seen from an earlier world w0 and from the world W of the call. -/
def AllS (q : List (Int × Int)) (n : Nat) (w0 W : World) (e : Ending) (w' : World) : Prop :=
  ∃ b, e = .returned (.slice (some ⟨b, 0, none⟩) n n) ∧ Hid (Row w' b 57 (cvs q)) ∧ Below w0.heap.size w0 w' ∧ Hid (Below W.heap.size W w')

/-- The same for a new list of records of floats. -/
def NewS (q : List (Int × Int)) (w0 W : World) (e : Ending) (w' : World) : Prop :=
  ∃ v, e = .returned v ∧ Hid (Two w' (fun _ => True) v (fls q)) ∧ Below w0.heap.size w0 w' ∧ Hid (Below W.heap.size W w')

section
variable {g : Nat} {h : Option Nat} {N n : Nat} {q : List (Int × Int)} {w0 W : World}

theorem all_s (r : BufQ w0 g h N q) (hn : q.length = n) (W : World) (hb : Below w0.heap.size w0 W) : Calls Try.prog 18 #[.pointer (some ⟨g, 0, none⟩)] W (AllS q n w0 W) :=
  (ball_any g h N q W (r.below hb)).mono fun _ _ ⟨b, he, hr, _, hb'⟩ => ⟨b, by rw [he, hn], hr, below_on hb hb', hb'⟩

theorem pairs_s {b : Nat} (hr : Row W b 57 (cvs q)) (hn : q.length = n) (hb : Below w0.heap.size w0 W) (hq : n ≤ 65536) : Calls Try.prog 17 #[.slice (some ⟨b, 0, none⟩) n n] W (NewS q w0 W) := by
  have hl := Lies.of_row (P := fun _ => True) hr trivial n
  rw [cvs_len, hn] at hl
  exact (pairs_any _ _ q W hl (by omega)).mono fun _ _ ⟨v, he, hv, hb'⟩ => ⟨v, he, hv, below_on hb hb', hb'⟩

theorem cells_s {P : Nat → Prop} {v : Value} (hv : Two w0 P v (sts q)) (hg : Good q) (hq : q.length ≤ 65536) (W : World) (hb : Below w0.heap.size w0 W) : Calls Try.prog 19 #[v] W (NewS q w0 W) :=
  (rcells_any P v q W (hv.below hb) hg hq).mono fun _ _ ⟨v, he, hv, hb'⟩ => ⟨v, he, hv, below_on hb hb', hb'⟩

theorem sameCells_s {P Q : Nat → Prop} {v u : Value} (hv : Two W P v (fls q)) (hu : Two W Q u (fls q)) (hg : Good q) (hq : q.length ≤ 65536) (hb : Below w0.heap.size w0 W) :
    Calls Try.prog 16 #[v, u] W fun e w' => e = .returned (.bool true) ∧ Below w0.heap.size w0 w' :=
  (rsameCells_yes P Q v u q W hv hu hg hq).mono fun _ _ ⟨he, hb'⟩ => ⟨he, below_on hb hb'⟩
end

set_option maxHeartbeats 2000000 in
theorem like_yes (g : Nat) (h : Option Nat) (N : Nat) (q : List (Int × Int)) (P : Nat → Prop) (v : Value) (w : World) (r : BufQ w g h N q) (hv : Two w P v (sts q)) :
    Calls Try.prog 11 #[ptr g, rbufV N v] w fun e w' => e = .returned (.bool true) ∧ Below w.heap.size w w' := by
  obtain ⟨A, n, c, rfl, HN, HV⟩ := hv.open_
  have hn : q.length = n := by have := HN.out; rwa [sts_len] at this
  have hfit := r.fit
  have hb0 := below_al w (.cells #[.int .i64 N, .slice A n c] 33)
  have r0 := r.below hb0
  have v0 := HV.out.below hb0
  have row := Row.new w 33 #[.int .i64 N, .slice A n c]
  have hqn : n ≤ 65536 := by omega
  have hq : q.length ≤ 65536 := by omega
  have b1 : ((N : Int) == (N : Int)) = true := by simp
  have b2 : ((n : Int) == (n : Int)) = true := by simp
  unfold ptr rbufV
  go_enter Try.func11, Try.ntmps11
  go_wp2
  have HB0 := Lib.hid hb0
  generalize w.alloc (.cells #[.int .i64 N, .slice A n c] 33) = w0 at r0 v0 row HB0 ⊢
  have f0 := row.cell 0
  have f1 := row.cell 1
  have hlt := row.lt
  simp only [List.getElem?_cons_zero, List.getElem?_cons_succ] at f0 f1
  have hbb : Below w0.heap.size w0 w0 := Below.refl _ _
  have cp := Lib.hid (fun W (hb : Below w0.heap.size w0 W) => bcap_any g h N q W (r0.below hb))
  have ln := Lib.hid (fun W (hb : Below w0.heap.size w0 W) => blen_any g h N q W (r0.below hb))
  have al := Lib.hid (all_s r0 hn)
  have ce := Lib.hid (cells_s v0 hfit.2.2.2.2.2 hq)
  have HG := Lib.hid hfit.2.2.2.2.2
  have HN' := Lib.hid hn
  rw [hn] at ln
  unfold ptr at cp ln
  generalize w.heap.size = B at f0 f1 hlt ⊢
  clear r hv HN HV hb0 r0 v0 row hn hfit hq
  go_region_held3 (fun w' => w'.cell? ⟨B, 0, none⟩ = some (.int .i64 N) ∧ w'.cell? ⟨B, 1, none⟩ = some (.slice A n c) ∧ Below w0.heap.size w0 w')
    (first
      | exact keep2 f0 f1 hlt hb8
      | exact keep2 f0 f1 hlt hb7
      | exact keep2 f0 f1 hlt hb6
      | exact keep2 f0 f1 hlt hb5
      | exact keep2 f0 f1 hlt hbb.drew
      | exact keep2 f0 f1 hlt hbb
      | go_keep)
    (first
      | (go_at_call 14; (with_reducible refine (cp.out _ ?_).mono ?_); (go_split_ands; assumption); rintro e w' ⟨rfl, rfl⟩)
      | (go_at_call 13; (with_reducible refine (ln.out _ ?_).mono ?_); (go_split_ands; assumption); rintro e w' ⟨rfl, rfl⟩)
      | (go_at_call 18; (with_reducible refine (al.out _ ?_).mono ?_); (go_split_ands; assumption); rintro e w5 ⟨b5, rfl, hr5, hb5, hk5⟩)
      | (go_at_call 17; (with_reducible refine (pairs_s (w0 := w0) hr5.out HN'.out ?_ hqn).mono ?_); (go_split_ands; assumption); rintro e w6 ⟨v6, rfl, hv6, hb6, hk6⟩)
      | (go_at_call 17; (with_reducible refine (pairs_s (w0 := w0) (hr5.out.below hk7.out) HN'.out ?_ hqn).mono ?_); (go_split_ands; assumption); rintro e w6 ⟨v6, rfl, hv6, hb6, hk6⟩)
      | (go_at_call 19; (with_reducible refine (ce.out _ ?_).mono ?_); (go_split_ands; assumption); rintro e w7 ⟨v7, rfl, hv7, hb7, hk7⟩)
      | (go_at_call 16; (with_reducible refine (sameCells_s (w0 := w0) hv6.out (hv7.out.below hk6.out) HG.out (by rw [HN'.out]; exact hqn) ?_).mono ?_); (go_split_ands; assumption); rintro e w8 ⟨rfl, hb8⟩)
      | (go_at_call 16; (with_reducible refine (sameCells_s (w0 := w0) (hv6.out.below hk7.out) hv7.out HG.out (by rw [HN'.out]; exact hqn) ?_).mono ?_); (go_split_ands; assumption); rintro e w8 ⟨rfl, hb8⟩)
      | (go_at_call 16; (with_reducible refine (sameCells_s (w0 := w0) hv6.out ((hv7.out.below hk5.out).below hk6.out) HG.out (by rw [HN'.out]; exact hqn) ?_).mono ?_); (go_split_ands; assumption); rintro e w8 ⟨rfl, hb8⟩))
  all_goals
    go_wp2
    go_ret
    exact ⟨rfl, below_on HB0.out hb8⟩

#print axioms like_yes
end Go.Proofs.Ytnclocbbngnebaa
