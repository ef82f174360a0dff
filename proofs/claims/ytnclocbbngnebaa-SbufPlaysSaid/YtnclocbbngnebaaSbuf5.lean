/-
  Contracts of the helpers of layer 5's laws: do, alive; the walk of the law SbufNobody.
  Conditions: those that each theorem states.
-/
import Derived.Test.YtnclocbbngnebaaRSbuf3
namespace Go.Proofs.Ytnclocbbngnebaa
open Go.ChangeShapes Go.WideShapes Go.ChangeAt Go.RowKit

/-- A call as a value: its kind and store. -/
def opV5 (K a b : Int) : Value := .agg #[.int .i64 K, .int .i64 a, .int .i64 b]
/-- The buffer behind a call, what is told, and the error. -/
def doQ5 (N : Nat) (q : List (Int × Int)) (K a b : Int) : List (Int × Int) := if K = 0 then bputQ N q a b else if K = 1 then q.tail else if K = 2 then [] else q
def doX5 (q : List (Int × Int)) (K a : Int) : Int × Int := if K = 0 then (0, 0) else if K = 1 then q.headD (0, 0) else if K = 2 then (0, 0) else (0, fV (fnd q a))
def doF5 (N : Nat) (q : List (Int × Int)) (K a b : Int) : Int := if K = 0 then bputE N q a b else if K = 1 then (if q = [] then 0 else 1) else if K = 2 then q.length else if fB (fnd q a) then 1 else 0

theorem bputQ_len (N : Nat) (q : List (Int × Int)) (a b : Int) (h : q.length ≤ N) : (bputQ N q a b).length ≤ N := by
  unfold bputQ
  split
  · exact h
  · split
    · exact h
    · simp; omega

/-- The world in which do calls: the call and its answer in new blocks. -/
def in5 (w : World) (K a b : Int) : World := (w.alloc (.cells #[.int .i64 K, .int .i64 a, .int .i64 b] 26)).alloc (.cells #[.int .i64 0, .int .i64 0] 24)

theorem in5_below (w : World) (K a b : Int) : Below w.heap.size w (in5 w K a b) := below_on (below_al _ _) (below_al _ _)
theorem in5_size (w : World) (K a b : Int) : (in5 w K a b).heap.size = w.heap.size + 1 + 1 := by simp [in5]
theorem in5_row (w : World) (K a b : Int) : Row (in5 w K a b) (w.heap.size + 1) 24 [.int .i64 0, .int .i64 0] := by
  simpa [in5] using Row.new (w.alloc (.cells #[.int .i64 K, .int .i64 a, .int .i64 b] 26)) 24 #[.int .i64 0, .int .i64 0]

/-- The answer's block behind a call of the buffer. -/
theorem in5_cells {w w2 : World} {K a b : Int} {g : Nat} {h : Option Nat} {N : Nat} {q : List (Int × Int)} (r : BufQ w g h N q) (ho : Only (fun b => b = g ∨ h = some b) (in5 w K a b) w2) : Row w2 (w.heap.size + 1) 24 [.int .i64 0, .int .i64 0] := by
  have hf := r.fit
  refine (in5_row w K a b).only ho ?_
  rintro (e | e)
  · omega
  · have := (hf.2.2.2.2.1 _ e).1
    omega

/-- Put together: what do leaves. -/
theorem in5_done {w w2 : World} {K a b x y : Int} {g : Nat} {h h' : Option Nat} {N : Nat} {q q' : List (Int × Int)} {f : Value} (r : BufQ w g h N q) (r2 : BufQ w2 g h' N q') (ho : Only (fun b => b = g ∨ h = some b) (in5 w K a b) w2) (hh : ∀ c, h' = some c → h = some c ∨ (in5 w K a b).heap.size ≤ c) :
    BufP g h N q' f w (.returned f) ((w2.setCell ⟨w.heap.size + 1, 0, none⟩ (.int .i64 x)).setCell ⟨w.heap.size + 1, 1, none⟩ (.int .i64 y)) := by
  have hf := r.fit
  have hO : ∀ S : Nat → Prop, S (w.heap.size + 1) → Only S w2 ((w2.setCell ⟨w.heap.size + 1, 0, none⟩ (.int .i64 x)).setCell ⟨w.heap.size + 1, 1, none⟩ (.int .i64 y)) := fun S hS =>
    ((Only.refl S w2).setCell (p := ⟨w.heap.size + 1, 0, none⟩) (.inl hS) _).setCell (p := ⟨w.heap.size + 1, 1, none⟩) (.inl hS) _
  rw [in5_size] at hh
  refine ⟨h', rfl, r2.only (hO (fun b => b = w.heap.size + 1) rfl) (by omega) (fun c hc e => ?_), ?_, fun c hc => ?_⟩
  · rcases hh c hc with h1 | h1
    · have := (hf.2.2.2.2.1 _ h1).1
      omega
    · omega
  · have h1 : Only (fun b => b = g ∨ h = some b) w w2 := (Only.of_below (in5_below w K a b) _).trans ho
    exact (h1.setCell (p := ⟨w.heap.size + 1, 0, none⟩) (.inr (by simp)) _).setCell (p := ⟨w.heap.size + 1, 1, none⟩) (.inr (by simp)) _
  · rcases hh c hc with h1 | h1
    · exact .inl h1
    · exact .inr (by omega)

set_option maxHeartbeats 1000000 in
theorem do5_put (g : Nat) (h : Option Nat) (N : Nat) (q : List (Int × Int)) (a b : Int) (w : World) (r : BufQ w g h N q) :
    Calls Try.prog 10 #[ptr g, opV5 0 a b] w (BufP g h N (bputQ N q a b) (.tuple #[stV 0 0, .int .i64 (bputE N q a b)]) w) := by
  have RR := Lib.hid r
  have k := Lib.hid (bput_any g h N q a b _ (r.below (in5_below w 0 a b)))
  clear r
  unfold opV5 stV
  unfold ptr at k ⊢
  go_enter Try.func10, Try.ntmps10
  go_wp2_with fail
  refine k.out.mono ?_
  rintro e w2 ⟨h', rfl, r2, ho, hh⟩
  have hrow := in5_cells RR.out ho
  have d0 := hrow.cell 0
  have d1 := hrow.cell 1
  have e0 := hrow.soft 0
  have e1 := hrow.soft 1
  simp only [List.getElem?_cons_zero, List.getElem?_cons_succ] at d0 d1
  have HD := Lib.hid (in5_done (x := 0) (y := 0) (f := .tuple #[.agg #[.int .i64 0, .int .i64 0], .int .i64 (bputE N q a b)]) RR.out r2 ho hh)
  clear hrow r2 ho hh k
  go_wp2
  exact bodyPost_ret (v := .tuple #[.agg #[.int .i64 0, .int .i64 0], .int .i64 (bputE N q a b)]) (by simp [results, Try.results10, go_sem, *]) rfl HD.out

set_option maxHeartbeats 1000000 in
theorem do5_drain (g : Nat) (h : Option Nat) (N : Nat) (q : List (Int × Int)) (a b : Int) (w : World) (r : BufQ w g h N q) :
    Calls Try.prog 10 #[ptr g, opV5 1 a b] w (BufP g h N q.tail (.tuple #[stV (q.headD (0, 0)).1 (q.headD (0, 0)).2, .int .i64 (if q = [] then 0 else 1)]) w) := by
  have RR := Lib.hid r
  cases q with
  | nil =>
    have k := Lib.hid (bdrain_empty g h N _ (r.below (in5_below w 1 a b)))
    clear r
    show Calls _ _ _ _ (BufP g h N [] (.tuple #[stV 0 0, .int .i64 0]) w)
    unfold opV5 stV
    unfold ptr at k ⊢
    go_enter Try.func10, Try.ntmps10
    go_wp2_with fail
    refine k.out.mono ?_
    rintro e w2 ⟨h', rfl, r2, ho, hh⟩
    have hrow := in5_cells RR.out ho
    have d0 := hrow.cell 0
    have d1 := hrow.cell 1
    have e0 := hrow.soft 0
    have e1 := hrow.soft 1
    simp only [List.getElem?_cons_zero, List.getElem?_cons_succ] at d0 d1
    have HD := Lib.hid (in5_done (x := 0) (y := 0) (f := .tuple #[.agg #[.int .i64 0, .int .i64 0], .int .i64 0]) RR.out r2 ho hh)
    clear hrow r2 ho hh k
    go_wp2
    exact bodyPost_ret (v := .tuple #[.agg #[.int .i64 0, .int .i64 0], .int .i64 0]) (by simp [results, Try.results10, go_sem, *]) rfl HD.out
  | cons p t =>
    have k := Lib.hid (bdrain_some g h N p.1 p.2 t _ (r.below (in5_below w 1 a b)))
    clear r
    show Calls _ _ _ _ (BufP g h N t (.tuple #[stV p.1 p.2, .int .i64 1]) w)
    unfold opV5 stV
    unfold ptr at k ⊢
    go_enter Try.func10, Try.ntmps10
    go_wp2_with fail
    refine k.out.mono ?_
    rintro e w2 ⟨h', rfl, r2, ho, hh⟩
    have hrow := in5_cells RR.out ho
    have d0 := hrow.cell 0
    have d1 := hrow.cell 1
    have e0 := hrow.soft 0
    have e1 := hrow.soft 1
    simp only [List.getElem?_cons_zero, List.getElem?_cons_succ] at d0 d1
    have HD := Lib.hid (in5_done (x := p.1) (y := p.2) (f := .tuple #[.agg #[.int .i64 p.1, .int .i64 p.2], .int .i64 1]) RR.out r2 ho hh)
    clear hrow r2 ho hh k
    go_wp2
    exact bodyPost_ret (v := .tuple #[.agg #[.int .i64 p.1, .int .i64 p.2], .int .i64 1]) (by simp [results, Try.results10, go_sem, *]) rfl HD.out

set_option maxHeartbeats 1000000 in
theorem do5_clear (g : Nat) (h : Option Nat) (N : Nat) (q : List (Int × Int)) (a b : Int) (w : World) (r : BufQ w g h N q) :
    Calls Try.prog 10 #[ptr g, opV5 2 a b] w (BufP g h N [] (.tuple #[stV 0 0, .int .i64 q.length]) w) := by
  have RR := Lib.hid r
  have k := Lib.hid (bclear_any g h N q _ (r.below (in5_below w 2 a b)))
  clear r
  unfold opV5 stV
  unfold ptr at k ⊢
  go_enter Try.func10, Try.ntmps10
  go_wp2_with fail
  refine k.out.mono ?_
  rintro e w2 ⟨h', rfl, r2, ho, hh⟩
  have hrow := in5_cells RR.out ho
  have d0 := hrow.cell 0
  have d1 := hrow.cell 1
  have e0 := hrow.soft 0
  have e1 := hrow.soft 1
  simp only [List.getElem?_cons_zero, List.getElem?_cons_succ] at d0 d1
  have HD := Lib.hid (in5_done (x := 0) (y := 0) (f := .tuple #[.agg #[.int .i64 0, .int .i64 0], .int .i64 q.length]) RR.out r2 ho hh)
  clear hrow r2 ho hh k
  go_wp2
  exact bodyPost_ret (v := .tuple #[.agg #[.int .i64 0, .int .i64 0], .int .i64 q.length]) (by simp [results, Try.results10, go_sem, *]) rfl HD.out

set_option maxHeartbeats 1000000 in
theorem do5_find (g : Nat) (h : Option Nat) (N : Nat) (q : List (Int × Int)) (K a b : Int) (w : World) (r : BufQ w g h N q) (h0 : K ≠ 0) (h1 : K ≠ 1) (h2 : K ≠ 2) :
    Calls Try.prog 10 #[ptr g, opV5 K a b] w (BufP g h N q (.tuple #[stV 0 (fV (fnd q a)), .int .i64 (if fB (fnd q a) then 1 else 0)]) w) := by
  have RR := Lib.hid r
  have k := bfind_any g h N q a _ (r.below (in5_below w K a b))
  clear r
  have b0 : (K == 0) = false := by simpa using h0
  have b1 : (K == 1) = false := by simpa using h1
  have b2 : (K == 2) = false := by simpa using h2
  clear h0 h1 h2
  obtain ⟨f, hf⟩ : ∃ f, fnd q a = f := ⟨_, rfl⟩
  rw [hf] at k ⊢
  have K' := Lib.hid k
  clear k hf
  unfold opV5 stV
  unfold ptr at K' ⊢
  cases f with
  | none =>
    unfold fV fB at K' ⊢
    simp only [Option.getD_none, Option.isSome_none, Bool.false_eq_true, if_false] at K' ⊢
    go_enter Try.func10, Try.ntmps10
    go_wp2_with fail
    refine K'.out.mono ?_
    rintro e w2 ⟨rfl, rfl⟩
    have hrow := in5_row w K a b
    have d0 := hrow.cell 0
    have d1 := hrow.cell 1
    have e0 := hrow.soft 0
    have e1 := hrow.soft 1
    simp only [List.getElem?_cons_zero, List.getElem?_cons_succ] at d0 d1
    have HD := Lib.hid (in5_done (x := 0) (y := 0) (f := .tuple #[.agg #[.int .i64 0, .int .i64 0], .int .i64 0]) RR.out (RR.out.below (in5_below w K a b)) (Only.refl _ _) (fun c hc => .inl hc))
    clear hrow K'
    generalize in5 w K a b = w2 at d0 d1 e0 e1 HD ⊢
    go_wp2
    exact bodyPost_ret (v := .tuple #[.agg #[.int .i64 0, .int .i64 0], .int .i64 0]) (by simp [results, Try.results10, go_sem, *]) rfl HD.out
  | some z =>
    unfold fV fB at K' ⊢
    simp only [Option.getD_some, Option.isSome_some, if_true] at K' ⊢
    go_enter Try.func10, Try.ntmps10
    go_wp2_with fail
    refine K'.out.mono ?_
    rintro e w2 ⟨rfl, rfl⟩
    have hrow := in5_row w K a b
    have d0 := hrow.cell 0
    have d1 := hrow.cell 1
    have e0 := hrow.soft 0
    have e1 := hrow.soft 1
    simp only [List.getElem?_cons_zero, List.getElem?_cons_succ] at d0 d1
    have HD := Lib.hid (in5_done (x := 0) (y := z) (f := .tuple #[.agg #[.int .i64 0, .int .i64 z], .int .i64 1]) RR.out (RR.out.below (in5_below w K a b)) (Only.refl _ _) (fun c hc => .inl hc))
    clear hrow K'
    generalize in5 w K a b = w2 at d0 d1 e0 e1 HD ⊢
    go_wp2
    exact bodyPost_ret (v := .tuple #[.agg #[.int .i64 0, .int .i64 z], .int .i64 1]) (by simp [results, Try.results10, go_sem, *]) rfl HD.out

theorem do5_any (g : Nat) (h : Option Nat) (N : Nat) (q : List (Int × Int)) (K a b : Int) (w : World) (r : BufQ w g h N q) :
    Calls Try.prog 10 #[ptr g, opV5 K a b] w (BufP g h N (doQ5 N q K a b) (.tuple #[stV (doX5 q K a).1 (doX5 q K a).2, .int .i64 (doF5 N q K a b)]) w) := by
  unfold doQ5 doX5 doF5
  by_cases h0 : K = 0
  · subst h0
    exact do5_put g h N q a b w r
  · by_cases h1 : K = 1
    · subst h1
      exact do5_drain g h N q a b w r
    · by_cases h2 : K = 2
      · subst h2
        exact do5_clear g h N q a b w r
      · rw [if_neg h0, if_neg h0, if_neg h0, if_neg h1, if_neg h1, if_neg h1, if_neg h2, if_neg h2, if_neg h2]
        exact do5_find g h N q K a b w r h0 h1 h2

/-- What do of a nil buffer answers. -/
def nilF5 (K : Int) : Int := if K = 0 then 1 else 0

set_option maxHeartbeats 1000000 in
theorem do5_nil (K a b : Int) (w : World) :
    Calls Try.prog 10 #[.pointer none, opV5 K a b] w fun e w' => e = .returned (.tuple #[stV 0 0, .int .i64 (nilF5 K)]) ∧ Below w.heap.size w w' := by
  have b2 : Hid (∀ x y : Obj, Below w.heap.size w ((w.alloc x).alloc y)) := Lib.hid (fun x y => below_on (below_al _ _) (below_al _ _))
  unfold opV5 stV
  by_cases h0 : K = 0
  · subst h0
    go_enter Try.func10, Try.ntmps10
    go_wp2_with (go_at_call 20; refine (bput_nil _ _ _).mono ?_; rintro e w' ⟨rfl, rfl⟩)
    exact bodyPost_ret (v := .tuple #[.agg #[.int .i64 0, .int .i64 0], .int .i64 1]) (by simp [results, Try.results10, go_sem]) rfl ⟨rfl, b2.out _ _⟩
  · have e1 : nilF5 K = 0 := by unfold nilF5; rw [if_neg h0]
    rw [e1]
    clear e1
    by_cases h1 : K = 1
    · subst h1
      clear h0
      go_enter Try.func10, Try.ntmps10
      go_wp2_with (go_at_call 21; refine (bdrain_nil _).mono ?_; rintro e w' ⟨rfl, rfl⟩)
      exact bodyPost_ret (v := .tuple #[.agg #[.int .i64 0, .int .i64 0], .int .i64 0]) (by simp [results, Try.results10, go_sem]) rfl ⟨rfl, b2.out _ _⟩
    · have c0 : (K == 0) = false := by simpa using h0
      have c1 : (K == 1) = false := by simpa using h1
      by_cases h2 : K = 2
      · subst h2
        clear h0 h1
        go_enter Try.func10, Try.ntmps10
        go_wp2_with (go_at_call 26; refine (bclear_nil _).mono ?_; rintro e w' ⟨rfl, rfl⟩)
        exact bodyPost_ret (v := .tuple #[.agg #[.int .i64 0, .int .i64 0], .int .i64 0]) (by simp [results, Try.results10, go_sem]) rfl ⟨rfl, b2.out _ _⟩
      · have c2 : (K == 2) = false := by simpa using h2
        clear h0 h1 h2
        go_enter Try.func10, Try.ntmps10
        go_wp2_with (go_at_call 15; refine (bfind_nil _ _).mono ?_; rintro e w' ⟨rfl, rfl⟩)
        exact bodyPost_ret (v := .tuple #[.agg #[.int .i64 0, .int .i64 0], .int .i64 0]) (by simp [results, Try.results10, go_sem]) rfl ⟨rfl, b2.out _ _⟩

#print axioms do5_any
#print axioms do5_nil
end Go.Proofs.Ytnclocbbngnebaa
