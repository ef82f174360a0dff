/-
  The reference's Do of layer 5, second part; the law's like.
  Conditions: those that each theorem states.
-/
import Derived.Test.YtnclocbbngnebaaSbuf7
namespace Go.Proofs.Ytnclocbbngnebaa
open Go.ChangeShapes Go.WideShapes Go.ChangeAt Go.RowKit

set_option maxHeartbeats 1000000 in
theorem rdo5_clear (P : Nat → Prop) (N : Nat) (v : Value) (q : List (Int × Int)) (a b : Int) (w : World) (hv : Two w P v (sts q)) :
    Calls Try.prog 9 #[rbufV N v, opV5 2 a b] w (RBufP P N [] [stV 0 0, .int .i64 q.length] w) := by
  obtain ⟨A, n, c, rfl, HN, HV⟩ := hv.open_
  have hn : q.length = n := by have := HN.out; rwa [sts_len] at this
  rw [hn]
  have b4 : Hid (∀ x y z u : Obj, Below w.heap.size w ((((w.alloc x).alloc y).alloc z).alloc u)) := Lib.hid (fun x y z u => below_on (below_on (below_on (below_al _ _) (below_al _ _)) (below_al _ _)) (below_al _ _))
  clear hv HN HV hn
  unfold rbufV opV5 stV
  go_enter Try.func9, Try.ntmps9
  go_wp2
  exact bodyPost_ret (v := .tuple #[.agg #[.int .i64 N, .slice none 0 0], .agg #[.int .i64 0, .int .i64 0], .int .i64 n]) (by simp [results, Try.results9, go_sem]) rfl ⟨_, rfl, Two.nil_ _ _, rfl, b4.out _ _ _ _⟩

set_option maxHeartbeats 1000000 in
theorem rdo5_find (P : Nat → Prop) (N : Nat) (v : Value) (q : List (Int × Int)) (K a b : Int) (w : World) (hv : Two w P v (sts q)) (hcap : CapOk v) (hq : q.length ≤ 16) (h0 : K ≠ 0) (h1 : K ≠ 1) (h2 : K ≠ 2) :
    Calls Try.prog 9 #[rbufV N v, opV5 K a b] w (RBufP P N q [stV 0 (fV (fnd q a)), .int .i64 (if fB (fnd q a) then 1 else 0)] w) := by
  have hv' := ((hv.weak (Q := farR w P) (fun g hg hp => ⟨hp, fun e => by unfold ownR at e; omega⟩)).below (inR_below w N v K a b))
  have k := rbfind_any _ N v q a _ hv' (by omega)
  have L0 := Lib.hid hv'
  have b0 : (K == 0) = false := by simpa using h0
  have b1 : (K == 1) = false := by simpa using h1
  have b2 : (K == 2) = false := by simpa using h2
  obtain ⟨A, n, c, rfl, HN, HV⟩ := hv.open_
  clear h0 h1 h2 hv hv' HN HV hq
  obtain ⟨f, hf⟩ : ∃ f, fnd q a = f := ⟨_, rfl⟩
  rw [hf] at k ⊢
  have K' := Lib.hid k
  clear k hf
  unfold rbufV at K'
  unfold rbufV opV5 stV
  have hf : (∃ z, f = some z) ∨ f = none := by cases f; exact .inr rfl; exact .inl ⟨_, rfl⟩
  rcases hf with ⟨z, rfl⟩ | rfl
  all_goals
    unfold fV fB at K' ⊢
    try simp only [Option.getD_some, Option.isSome_some, if_true] at K' ⊢
    try simp only [Option.getD_none, Option.isSome_none, Bool.false_eq_true, if_false] at K' ⊢
    go_enter Try.func9, Try.ntmps9
    go_wp2_with fail
    refine K'.out.mono ?_
    rintro e w1 ⟨rfl, hb1⟩
    have r0 := (inR_row0 w N (.slice A n c) K a b).below hb1
    have r2 := (inR_row2 w N (.slice A n c) K a b).below hb1
    have r3 := (inR_row3 w N (.slice A n c) K a b).below hb1
    have g0 := r0.cell 0
    have g1 := r0.cell 1
    have c0 := r2.cell 0
    have c1 := r2.cell 1
    have d0 := r3.cell 0
    have d1 := r3.cell 1
    have e0 := r2.soft 0
    have e1 := r2.soft 1
    have f0 := r3.soft 0
    have f1 := r3.soft 1
    simp only [List.getElem?_cons_zero, List.getElem?_cons_succ] at c0 c1 d0 d1 g0 g1
    have HB := Lib.hid (below_on (inR_below w N (.slice A n c) K a b) hb1)
    have HL := Lib.hid (L0.out.below hb1)
    clear r0 r2 r3 hb1 K' L0
    go_wp2
    refine bodyPost_ret (v := .tuple #[.agg #[.int .i64 N, .slice A n c], .agg #[.int .i64 0, _], _]) (by simp [results, Try.results9, go_sem, *]) rfl (finR HL.out hcap HB.out ?_)
    repeat (first | exact Only.refl _ _ | exact ownR2 w | exact ownR3 w | refine Only.alloc ?_ _ | refine Only.setCell ?_ (.inl ?_) _)

theorem rdo5_any (P : Nat → Prop) (N : Nat) (v : Value) (q : List (Int × Int)) (K a b : Int) (w : World) (hv : Two w P v (sts q)) (hcap : CapOk v) (hq : q.length ≤ N) (hN : N ≤ 16) (hP : ∀ b, w.heap.size ≤ b → P b) :
    Calls Try.prog 9 #[rbufV N v, opV5 K a b] w (RBufP P N (doQ5 N q K a b) [stV (doX5 q K a).1 (doX5 q K a).2, .int .i64 (doF5 N q K a b)] w) := by
  unfold doQ5 doX5 doF5
  by_cases h0 : K = 0
  · subst h0
    exact rdo5_put P N v q a b w hv hcap hq hN hP
  · by_cases h1 : K = 1
    · subst h1
      exact rdo5_drain P N v q a b w hv hcap hq hN
    · by_cases h2 : K = 2
      · subst h2
        exact rdo5_clear P N v q a b w hv
      · rw [if_neg h0, if_neg h0, if_neg h0, if_neg h1, if_neg h1, if_neg h1, if_neg h2, if_neg h2, if_neg h2]
        exact rdo5_find P N v q K a b w hv hcap (by omega) h0 h1 h2

#print axioms rdo5_any
end Go.Proofs.Ytnclocbbngnebaa
