/-
  Layer 6's law: Do, at a core that there is, at one that there is not, and for a nil bus; few.
  Conditions: those that each theorem states.
-/
import Derived.Test.YtgoogclcpnfmkaaBus8
import Derived.Test.YtgoogclcpnfmkaaSram
namespace Go.Proofs.Ytgoogclcpnfmkaa
open Go.ChangeShapes Go.WideShapes Go.ChangeAt Go.RowKit

/-- A call of kind K at a core whose stores are q: the words then, the stores then, what is told, the error. -/
def pL (N : Nat) (l : List Int) (q : List (Int × Int)) (K a x : Int) : List Int := if K = 0 then stoL N l q a x else if K = 2 then drs l (q.take 1) else if K = 3 then drs l q else if K = 4 then swL l q a x else l
def pQ (N : Nat) (l : List Int) (q : List (Int × Int)) (K a x : Int) : List (Int × Int) := if K = 0 then stoQ N l q a x else if K = 2 then q.drop 1 else if K = 3 then [] else if K = 4 then swQ l q a x else if K = 5 then [] else q
def pN (l : List Int) (q : List (Int × Int)) (K a x : Int) : Int := if K = 0 then 0 else if K = 2 then (if anyB q = true then 1 else 0) else if K = 3 then q.length else if K = 4 then swV l q a x else if K = 5 then q.length else ldV l q a
def pE (l : List Int) (K a x : Int) : Int := if K = 0 then fillE l.length a 1 x else if K = 2 then 0 else if K = 3 then 0 else if K = 4 then fillE l.length a 1 x else if K = 5 then 0 else runE l.length a 1

set_option maxRecDepth 100000 in
set_option maxHeartbeats 1000000 in
theorem do6_store (L : Lay) (N : Nat) (l : List Int) (qs : List (List (Int × Int))) (i : Nat) (q : List (Int × Int)) (a x : Int) (w : World) (r : BusAt w L N l qs) (hq : qs[i]? = some q) :
    Calls Try.prog 15 #[ptr L.g, opV 0 i a x] w (BusP L N (stoL N l q a x) (qs.set i (stoQ N l q a x)) (.tuple #[.int .i64 (0), .int .i64 (fillE l.length a 1 x)]) w) := by
  have X := Lib.hid (fun o : Obj => store6_ok L N l qs i q a x (w.alloc o) (r.below (below_al _ o)) hq)
  clear r
  unfold ptr at X ⊢
  unfold opV
  go_enter Try.func15, Try.ntmps15
  go_wp2_with (go_at_call 19; refine (X.out _).mono ?_; rintro e w1 ⟨f, rfl, hp⟩; have HP := Lib.hid hp; clear hp)
  go_ret2
  exact BusP.since ⟨f, rfl, HP.out⟩ (below_al _ _)

set_option maxRecDepth 100000 in
set_option maxHeartbeats 1000000 in
theorem do6_drain (L : Lay) (N : Nat) (l : List Int) (qs : List (List (Int × Int))) (i : Nat) (q : List (Int × Int)) (a x : Int) (w : World) (r : BusAt w L N l qs) (hq : qs[i]? = some q) :
    Calls Try.prog 15 #[ptr L.g, opV 2 i a x] w (BusP L N (drs l (q.take 1)) (qs.set i (q.drop 1)) (.tuple #[.int .i64 (if anyB q = true then 1 else 0), .int .i64 (0)]) w) := by
  have X := Lib.hid (fun o : Obj => drain6_ok L N l qs i q  (w.alloc o) (r.below (below_al _ o)) hq)
  clear r
  unfold ptr at X ⊢
  unfold opV
  by_cases hany : anyB q = true
  · rw [if_pos hany]
    rw [hany] at X
    go_enter Try.func15, Try.ntmps15
    go_wp2_with (go_at_call 41; refine (X.out _).mono ?_; rintro e w1 ⟨f, rfl, hp⟩; have HP := Lib.hid hp; clear hp)
    go_ret2
    exact BusP.since ⟨f, rfl, HP.out⟩ (below_al _ _)
  · rw [if_neg hany]
    have hany' : anyB q = false := by simpa using hany
    clear hany
    rw [hany'] at X
    go_enter Try.func15, Try.ntmps15
    go_wp2_with (go_at_call 41; refine (X.out _).mono ?_; rintro e w1 ⟨f, rfl, hp⟩; have HP := Lib.hid hp; clear hp)
    go_ret2
    exact BusP.since ⟨f, rfl, HP.out⟩ (below_al _ _)

set_option maxRecDepth 100000 in
set_option maxHeartbeats 1000000 in
theorem do6_fence (L : Lay) (N : Nat) (l : List Int) (qs : List (List (Int × Int))) (i : Nat) (q : List (Int × Int)) (a x : Int) (w : World) (r : BusAt w L N l qs) (hq : qs[i]? = some q) :
    Calls Try.prog 15 #[ptr L.g, opV 3 i a x] w (BusP L N (drs l q) (qs.set i ([])) (.tuple #[.int .i64 (q.length), .int .i64 (0)]) w) := by
  have X := Lib.hid (fun o : Obj => fence6_ok L N l qs i q  (w.alloc o) (r.below (below_al _ o)) hq)
  clear r
  unfold ptr at X ⊢
  unfold opV
  go_enter Try.func15, Try.ntmps15
  go_wp2_with (go_at_call 21; refine (X.out _).mono ?_; rintro e w1 ⟨f, rfl, hp⟩; have HP := Lib.hid hp; clear hp)
  go_ret2
  exact BusP.since ⟨f, rfl, HP.out⟩ (below_al _ _)

set_option maxRecDepth 100000 in
set_option maxHeartbeats 1000000 in
theorem do6_swap (L : Lay) (N : Nat) (l : List Int) (qs : List (List (Int × Int))) (i : Nat) (q : List (Int × Int)) (a x : Int) (w : World) (r : BusAt w L N l qs) (hq : qs[i]? = some q) :
    Calls Try.prog 15 #[ptr L.g, opV 4 i a x] w (BusP L N (swL l q a x) (qs.set i (swQ l q a x)) (.tuple #[.int .i64 (swV l q a x), .int .i64 (fillE l.length a 1 x)]) w) := by
  have X := Lib.hid (fun o : Obj => swap6_ok L N l qs i q a x (w.alloc o) (r.below (below_al _ o)) hq)
  clear r
  unfold ptr at X ⊢
  unfold opV
  go_enter Try.func15, Try.ntmps15
  go_wp2_with (go_at_call 42; refine (X.out _).mono ?_; rintro e w1 ⟨f, rfl, hp⟩; have HP := Lib.hid hp; clear hp)
  go_ret2
  exact BusP.since ⟨f, rfl, HP.out⟩ (below_al _ _)

set_option maxRecDepth 100000 in
set_option maxHeartbeats 1000000 in
theorem do6_lose (L : Lay) (N : Nat) (l : List Int) (qs : List (List (Int × Int))) (i : Nat) (q : List (Int × Int)) (a x : Int) (w : World) (r : BusAt w L N l qs) (hq : qs[i]? = some q) :
    Calls Try.prog 15 #[ptr L.g, opV 5 i a x] w (BusP L N (l) (qs.set i ([])) (.tuple #[.int .i64 (q.length), .int .i64 (0)]) w) := by
  have X := Lib.hid (fun o : Obj => lose6_ok L N l qs i q  (w.alloc o) (r.below (below_al _ o)) hq)
  clear r
  unfold ptr at X ⊢
  unfold opV
  go_enter Try.func15, Try.ntmps15
  go_wp2_with (go_at_call 43; refine (X.out _).mono ?_; rintro e w1 ⟨f, rfl, hp⟩; have HP := Lib.hid hp; clear hp)
  go_ret2
  exact BusP.since ⟨f, rfl, HP.out⟩ (below_al _ _)

set_option maxRecDepth 100000 in
set_option maxHeartbeats 1000000 in
theorem do6_load (L : Lay) (N : Nat) (l : List Int) (qs : List (List (Int × Int))) (i : Nat) (q : List (Int × Int)) (K a x : Int) (h0 : K ≠ 0) (h2 : K ≠ 2) (h3 : K ≠ 3) (h4 : K ≠ 4) (h5 : K ≠ 5) (w : World) (r : BusAt w L N l qs) (hq : qs[i]? = some q) :
    Calls Try.prog 15 #[ptr L.g, opV K i a x] w fun e w' => e = .returned (.tuple #[.int .i64 (ldV l q a), .int .i64 (runE l.length a 1)]) ∧ Below w.heap.size w w' := by
  have b0 : (K == 0) = false := by simpa using h0
  have b2 : (K == 2) = false := by simpa using h2
  have b3 : (K == 3) = false := by simpa using h3
  have b4 : (K == 4) = false := by simpa using h4
  have b5 : (K == 5) = false := by simpa using h5
  clear h0 h2 h3 h4 h5
  have X := Lib.hid (fun o : Obj => load6_ok L N l qs i q a (w.alloc o) (r.below (below_al _ o)) hq)
  clear r
  unfold ptr at X ⊢
  unfold opV
  go_enter Try.func15, Try.ntmps15
  go_wp2_with (go_at_call 20; refine (X.out _).mono ?_; rintro e w1 ⟨rfl, hb⟩; have HP := Lib.hid hb; clear hb)
  go_ret2
  exact ⟨rfl, below_on (below_al _ _) HP.out⟩

theorem do6_ok (L : Lay) (N : Nat) (l : List Int) (qs : List (List (Int × Int))) (i : Nat) (q : List (Int × Int)) (K a x : Int) (w : World) (r : BusAt w L N l qs) (hq : qs[i]? = some q) :
    Calls Try.prog 15 #[ptr L.g, opV K i a x] w (BusP L N (pL N l q K a x) (qs.set i (pQ N l q K a x)) (.tuple #[.int .i64 (pN l q K a x), .int .i64 (pE l K a x)]) w) := by
  unfold pL pQ pN pE
  by_cases h0 : K = 0
  · subst h0
    exact do6_store L N l qs i q a x w r hq
  rw [if_neg h0, if_neg h0, if_neg h0, if_neg h0]
  by_cases h2 : K = 2
  · subst h2
    exact do6_drain L N l qs i q a x w r hq
  rw [if_neg h2, if_neg h2, if_neg h2, if_neg h2]
  by_cases h3 : K = 3
  · subst h3
    exact do6_fence L N l qs i q a x w r hq
  rw [if_neg h3, if_neg h3, if_neg h3, if_neg h3]
  by_cases h4 : K = 4
  · subst h4
    exact do6_swap L N l qs i q a x w r hq
  rw [if_neg h4, if_neg h4, if_neg h4, if_neg h4]
  by_cases h5 : K = 5
  · subst h5
    exact do6_lose L N l qs i q a x w r hq
  rw [if_neg h5, if_neg h5, if_neg h5, set_same hq]
  exact (do6_load L N l qs i q K a x h0 h2 h3 h4 h5 w r hq).mono (fun e w' ⟨he, hb⟩ => ⟨L.hf, he, r.below hb, Ext.refl _ _, Only.of_below hb _⟩)

set_option maxRecDepth 100000 in
set_option maxHeartbeats 1000000 in
theorem do6_no (L : Lay) (N : Nat) (l : List Int) (qs : List (List (Int × Int))) (K c a x : Int) (w : World) (r : BusAt w L N l qs) (hc : c < 0 ∨ (qs.length : Int) ≤ c) :
    Calls Try.prog 15 #[ptr L.g, opV K c a x] w fun e w' => e = .returned (.tuple #[.int .i64 0, .int .i64 3]) ∧ Below w.heap.size w w' := by
  have XStore := Lib.hid (fun o : Obj => store6_no L N l qs c a x (w.alloc o) (r.below (below_al _ o)) hc)
  have XDrain := Lib.hid (fun o : Obj => drain6_no L N l qs c (w.alloc o) (r.below (below_al _ o)) hc)
  have XFence := Lib.hid (fun o : Obj => fence6_no L N l qs c (w.alloc o) (r.below (below_al _ o)) hc)
  have XSwap := Lib.hid (fun o : Obj => swap6_no L N l qs c a x (w.alloc o) (r.below (below_al _ o)) hc)
  have XLose := Lib.hid (fun o : Obj => lose6_no L N l qs c (w.alloc o) (r.below (below_al _ o)) hc)
  have XLoad := Lib.hid (fun o : Obj => load6_no L N l qs c a (w.alloc o) (r.below (below_al _ o)) hc)
  clear r hc
  unfold ptr at XStore XDrain XFence XSwap XLose XLoad ⊢
  unfold opV
  by_cases h0 : K = 0
  · subst h0
    go_enter Try.func15, Try.ntmps15
    go_wp2_with (first
      | (go_at_call 19; refine (XStore.out _).mono ?_; rintro e w1 ⟨rfl, hb⟩; have HP := Lib.hid hb; clear hb)
      | (go_at_call 41; refine (XDrain.out _).mono ?_; rintro e w1 ⟨rfl, hb⟩; have HP := Lib.hid hb; clear hb)
      | (go_at_call 21; refine (XFence.out _).mono ?_; rintro e w1 ⟨rfl, hb⟩; have HP := Lib.hid hb; clear hb)
      | (go_at_call 42; refine (XSwap.out _).mono ?_; rintro e w1 ⟨rfl, hb⟩; have HP := Lib.hid hb; clear hb)
      | (go_at_call 43; refine (XLose.out _).mono ?_; rintro e w1 ⟨rfl, hb⟩; have HP := Lib.hid hb; clear hb)
      | (go_at_call 20; refine (XLoad.out _).mono ?_; rintro e w1 ⟨rfl, hb⟩; have HP := Lib.hid hb; clear hb))
    go_ret2
    exact ⟨rfl, below_on (below_al _ _) HP.out⟩
  by_cases h2 : K = 2
  · subst h2
    go_enter Try.func15, Try.ntmps15
    go_wp2_with (first
      | (go_at_call 19; refine (XStore.out _).mono ?_; rintro e w1 ⟨rfl, hb⟩; have HP := Lib.hid hb; clear hb)
      | (go_at_call 41; refine (XDrain.out _).mono ?_; rintro e w1 ⟨rfl, hb⟩; have HP := Lib.hid hb; clear hb)
      | (go_at_call 21; refine (XFence.out _).mono ?_; rintro e w1 ⟨rfl, hb⟩; have HP := Lib.hid hb; clear hb)
      | (go_at_call 42; refine (XSwap.out _).mono ?_; rintro e w1 ⟨rfl, hb⟩; have HP := Lib.hid hb; clear hb)
      | (go_at_call 43; refine (XLose.out _).mono ?_; rintro e w1 ⟨rfl, hb⟩; have HP := Lib.hid hb; clear hb)
      | (go_at_call 20; refine (XLoad.out _).mono ?_; rintro e w1 ⟨rfl, hb⟩; have HP := Lib.hid hb; clear hb))
    go_ret2
    exact ⟨rfl, below_on (below_al _ _) HP.out⟩
  by_cases h3 : K = 3
  · subst h3
    go_enter Try.func15, Try.ntmps15
    go_wp2_with (first
      | (go_at_call 19; refine (XStore.out _).mono ?_; rintro e w1 ⟨rfl, hb⟩; have HP := Lib.hid hb; clear hb)
      | (go_at_call 41; refine (XDrain.out _).mono ?_; rintro e w1 ⟨rfl, hb⟩; have HP := Lib.hid hb; clear hb)
      | (go_at_call 21; refine (XFence.out _).mono ?_; rintro e w1 ⟨rfl, hb⟩; have HP := Lib.hid hb; clear hb)
      | (go_at_call 42; refine (XSwap.out _).mono ?_; rintro e w1 ⟨rfl, hb⟩; have HP := Lib.hid hb; clear hb)
      | (go_at_call 43; refine (XLose.out _).mono ?_; rintro e w1 ⟨rfl, hb⟩; have HP := Lib.hid hb; clear hb)
      | (go_at_call 20; refine (XLoad.out _).mono ?_; rintro e w1 ⟨rfl, hb⟩; have HP := Lib.hid hb; clear hb))
    go_ret2
    exact ⟨rfl, below_on (below_al _ _) HP.out⟩
  by_cases h4 : K = 4
  · subst h4
    go_enter Try.func15, Try.ntmps15
    go_wp2_with (first
      | (go_at_call 19; refine (XStore.out _).mono ?_; rintro e w1 ⟨rfl, hb⟩; have HP := Lib.hid hb; clear hb)
      | (go_at_call 41; refine (XDrain.out _).mono ?_; rintro e w1 ⟨rfl, hb⟩; have HP := Lib.hid hb; clear hb)
      | (go_at_call 21; refine (XFence.out _).mono ?_; rintro e w1 ⟨rfl, hb⟩; have HP := Lib.hid hb; clear hb)
      | (go_at_call 42; refine (XSwap.out _).mono ?_; rintro e w1 ⟨rfl, hb⟩; have HP := Lib.hid hb; clear hb)
      | (go_at_call 43; refine (XLose.out _).mono ?_; rintro e w1 ⟨rfl, hb⟩; have HP := Lib.hid hb; clear hb)
      | (go_at_call 20; refine (XLoad.out _).mono ?_; rintro e w1 ⟨rfl, hb⟩; have HP := Lib.hid hb; clear hb))
    go_ret2
    exact ⟨rfl, below_on (below_al _ _) HP.out⟩
  by_cases h5 : K = 5
  · subst h5
    go_enter Try.func15, Try.ntmps15
    go_wp2_with (first
      | (go_at_call 19; refine (XStore.out _).mono ?_; rintro e w1 ⟨rfl, hb⟩; have HP := Lib.hid hb; clear hb)
      | (go_at_call 41; refine (XDrain.out _).mono ?_; rintro e w1 ⟨rfl, hb⟩; have HP := Lib.hid hb; clear hb)
      | (go_at_call 21; refine (XFence.out _).mono ?_; rintro e w1 ⟨rfl, hb⟩; have HP := Lib.hid hb; clear hb)
      | (go_at_call 42; refine (XSwap.out _).mono ?_; rintro e w1 ⟨rfl, hb⟩; have HP := Lib.hid hb; clear hb)
      | (go_at_call 43; refine (XLose.out _).mono ?_; rintro e w1 ⟨rfl, hb⟩; have HP := Lib.hid hb; clear hb)
      | (go_at_call 20; refine (XLoad.out _).mono ?_; rintro e w1 ⟨rfl, hb⟩; have HP := Lib.hid hb; clear hb))
    go_ret2
    exact ⟨rfl, below_on (below_al _ _) HP.out⟩
  have b0 : (K == 0) = false := by simpa using h0
  have b2 : (K == 2) = false := by simpa using h2
  have b3 : (K == 3) = false := by simpa using h3
  have b4 : (K == 4) = false := by simpa using h4
  have b5 : (K == 5) = false := by simpa using h5
  clear h0 h2 h3 h4 h5
  go_enter Try.func15, Try.ntmps15
  go_wp2_with (first
    | (go_at_call 19; refine (XStore.out _).mono ?_; rintro e w1 ⟨rfl, hb⟩; have HP := Lib.hid hb; clear hb)
    | (go_at_call 41; refine (XDrain.out _).mono ?_; rintro e w1 ⟨rfl, hb⟩; have HP := Lib.hid hb; clear hb)
    | (go_at_call 21; refine (XFence.out _).mono ?_; rintro e w1 ⟨rfl, hb⟩; have HP := Lib.hid hb; clear hb)
    | (go_at_call 42; refine (XSwap.out _).mono ?_; rintro e w1 ⟨rfl, hb⟩; have HP := Lib.hid hb; clear hb)
    | (go_at_call 43; refine (XLose.out _).mono ?_; rintro e w1 ⟨rfl, hb⟩; have HP := Lib.hid hb; clear hb)
    | (go_at_call 20; refine (XLoad.out _).mono ?_; rintro e w1 ⟨rfl, hb⟩; have HP := Lib.hid hb; clear hb))
  go_ret2
  exact ⟨rfl, below_on (below_al _ _) HP.out⟩

set_option maxRecDepth 100000 in
set_option maxHeartbeats 1000000 in
theorem do6_nil (K c a x : Int) (w : World) :
    Calls Try.prog 15 #[.pointer none, opV K c a x] w fun e w' => e = .returned (.tuple #[.int .i64 0, .int .i64 1]) ∧ Below w.heap.size w w' := by
  have XStore := Lib.hid (fun o : Obj => store6_nil c a x (w.alloc o))
  have XDrain := Lib.hid (fun o : Obj => drain6_nil c (w.alloc o))
  have XFence := Lib.hid (fun o : Obj => fence6_nil c (w.alloc o))
  have XSwap := Lib.hid (fun o : Obj => swap6_nil c a x (w.alloc o))
  have XLose := Lib.hid (fun o : Obj => lose6_nil c (w.alloc o))
  have XLoad := Lib.hid (fun o : Obj => load6_nil c a (w.alloc o))
  unfold opV
  by_cases h0 : K = 0
  · subst h0
    go_enter Try.func15, Try.ntmps15
    go_wp2_with (first
      | (go_at_call 19; refine (XStore.out _).mono ?_; rintro e w1 ⟨rfl, hb⟩; have HP := Lib.hid hb; clear hb)
      | (go_at_call 41; refine (XDrain.out _).mono ?_; rintro e w1 ⟨rfl, hb⟩; have HP := Lib.hid hb; clear hb)
      | (go_at_call 21; refine (XFence.out _).mono ?_; rintro e w1 ⟨rfl, hb⟩; have HP := Lib.hid hb; clear hb)
      | (go_at_call 42; refine (XSwap.out _).mono ?_; rintro e w1 ⟨rfl, hb⟩; have HP := Lib.hid hb; clear hb)
      | (go_at_call 43; refine (XLose.out _).mono ?_; rintro e w1 ⟨rfl, hb⟩; have HP := Lib.hid hb; clear hb)
      | (go_at_call 20; refine (XLoad.out _).mono ?_; rintro e w1 ⟨rfl, hb⟩; have HP := Lib.hid hb; clear hb))
    go_ret2
    exact ⟨rfl, below_on (below_al _ _) HP.out⟩
  by_cases h2 : K = 2
  · subst h2
    go_enter Try.func15, Try.ntmps15
    go_wp2_with (first
      | (go_at_call 19; refine (XStore.out _).mono ?_; rintro e w1 ⟨rfl, hb⟩; have HP := Lib.hid hb; clear hb)
      | (go_at_call 41; refine (XDrain.out _).mono ?_; rintro e w1 ⟨rfl, hb⟩; have HP := Lib.hid hb; clear hb)
      | (go_at_call 21; refine (XFence.out _).mono ?_; rintro e w1 ⟨rfl, hb⟩; have HP := Lib.hid hb; clear hb)
      | (go_at_call 42; refine (XSwap.out _).mono ?_; rintro e w1 ⟨rfl, hb⟩; have HP := Lib.hid hb; clear hb)
      | (go_at_call 43; refine (XLose.out _).mono ?_; rintro e w1 ⟨rfl, hb⟩; have HP := Lib.hid hb; clear hb)
      | (go_at_call 20; refine (XLoad.out _).mono ?_; rintro e w1 ⟨rfl, hb⟩; have HP := Lib.hid hb; clear hb))
    go_ret2
    exact ⟨rfl, below_on (below_al _ _) HP.out⟩
  by_cases h3 : K = 3
  · subst h3
    go_enter Try.func15, Try.ntmps15
    go_wp2_with (first
      | (go_at_call 19; refine (XStore.out _).mono ?_; rintro e w1 ⟨rfl, hb⟩; have HP := Lib.hid hb; clear hb)
      | (go_at_call 41; refine (XDrain.out _).mono ?_; rintro e w1 ⟨rfl, hb⟩; have HP := Lib.hid hb; clear hb)
      | (go_at_call 21; refine (XFence.out _).mono ?_; rintro e w1 ⟨rfl, hb⟩; have HP := Lib.hid hb; clear hb)
      | (go_at_call 42; refine (XSwap.out _).mono ?_; rintro e w1 ⟨rfl, hb⟩; have HP := Lib.hid hb; clear hb)
      | (go_at_call 43; refine (XLose.out _).mono ?_; rintro e w1 ⟨rfl, hb⟩; have HP := Lib.hid hb; clear hb)
      | (go_at_call 20; refine (XLoad.out _).mono ?_; rintro e w1 ⟨rfl, hb⟩; have HP := Lib.hid hb; clear hb))
    go_ret2
    exact ⟨rfl, below_on (below_al _ _) HP.out⟩
  by_cases h4 : K = 4
  · subst h4
    go_enter Try.func15, Try.ntmps15
    go_wp2_with (first
      | (go_at_call 19; refine (XStore.out _).mono ?_; rintro e w1 ⟨rfl, hb⟩; have HP := Lib.hid hb; clear hb)
      | (go_at_call 41; refine (XDrain.out _).mono ?_; rintro e w1 ⟨rfl, hb⟩; have HP := Lib.hid hb; clear hb)
      | (go_at_call 21; refine (XFence.out _).mono ?_; rintro e w1 ⟨rfl, hb⟩; have HP := Lib.hid hb; clear hb)
      | (go_at_call 42; refine (XSwap.out _).mono ?_; rintro e w1 ⟨rfl, hb⟩; have HP := Lib.hid hb; clear hb)
      | (go_at_call 43; refine (XLose.out _).mono ?_; rintro e w1 ⟨rfl, hb⟩; have HP := Lib.hid hb; clear hb)
      | (go_at_call 20; refine (XLoad.out _).mono ?_; rintro e w1 ⟨rfl, hb⟩; have HP := Lib.hid hb; clear hb))
    go_ret2
    exact ⟨rfl, below_on (below_al _ _) HP.out⟩
  by_cases h5 : K = 5
  · subst h5
    go_enter Try.func15, Try.ntmps15
    go_wp2_with (first
      | (go_at_call 19; refine (XStore.out _).mono ?_; rintro e w1 ⟨rfl, hb⟩; have HP := Lib.hid hb; clear hb)
      | (go_at_call 41; refine (XDrain.out _).mono ?_; rintro e w1 ⟨rfl, hb⟩; have HP := Lib.hid hb; clear hb)
      | (go_at_call 21; refine (XFence.out _).mono ?_; rintro e w1 ⟨rfl, hb⟩; have HP := Lib.hid hb; clear hb)
      | (go_at_call 42; refine (XSwap.out _).mono ?_; rintro e w1 ⟨rfl, hb⟩; have HP := Lib.hid hb; clear hb)
      | (go_at_call 43; refine (XLose.out _).mono ?_; rintro e w1 ⟨rfl, hb⟩; have HP := Lib.hid hb; clear hb)
      | (go_at_call 20; refine (XLoad.out _).mono ?_; rintro e w1 ⟨rfl, hb⟩; have HP := Lib.hid hb; clear hb))
    go_ret2
    exact ⟨rfl, below_on (below_al _ _) HP.out⟩
  have b0 : (K == 0) = false := by simpa using h0
  have b2 : (K == 2) = false := by simpa using h2
  have b3 : (K == 3) = false := by simpa using h3
  have b4 : (K == 4) = false := by simpa using h4
  have b5 : (K == 5) = false := by simpa using h5
  clear h0 h2 h3 h4 h5
  go_enter Try.func15, Try.ntmps15
  go_wp2_with (first
    | (go_at_call 19; refine (XStore.out _).mono ?_; rintro e w1 ⟨rfl, hb⟩; have HP := Lib.hid hb; clear hb)
    | (go_at_call 41; refine (XDrain.out _).mono ?_; rintro e w1 ⟨rfl, hb⟩; have HP := Lib.hid hb; clear hb)
    | (go_at_call 21; refine (XFence.out _).mono ?_; rintro e w1 ⟨rfl, hb⟩; have HP := Lib.hid hb; clear hb)
    | (go_at_call 42; refine (XSwap.out _).mono ?_; rintro e w1 ⟨rfl, hb⟩; have HP := Lib.hid hb; clear hb)
    | (go_at_call 43; refine (XLose.out _).mono ?_; rintro e w1 ⟨rfl, hb⟩; have HP := Lib.hid hb; clear hb)
    | (go_at_call 20; refine (XLoad.out _).mono ?_; rintro e w1 ⟨rfl, hb⟩; have HP := Lib.hid hb; clear hb))
  go_ret2
  exact ⟨rfl, below_on (below_al _ _) HP.out⟩

set_option maxRecDepth 100000 in
set_option maxHeartbeats 1000000 in
theorem few6_any (n : Int) (A : Option Addr) (m c : Nat) (w : World) :
    Calls Try.prog 9 #[.int .i64 n, .slice A m c] w fun e w' => e = .returned (.bool (decide ((m : Int) ≤ 80) && decide (n ≤ 200))) ∧ w = w' := by
  by_cases h : (m : Int) ≤ 80
  · go_enter Try.func9, Try.ntmps9
    go_wp2
    go_ret
    exact ⟨by first | (simp; omega) | simp, rfl⟩
  · have h' : decide ((m : Int) ≤ 80) = false := by simpa using h
    go_enter Try.func9, Try.ntmps9
    go_wp2
    go_ret
    exact ⟨by first | (simp; omega) | simp, rfl⟩

#print axioms do6_ok
#print axioms do6_no
#print axioms do6_nil
#print axioms few6_any
end Go.Proofs.Ytgoogclcpnfmkaa
