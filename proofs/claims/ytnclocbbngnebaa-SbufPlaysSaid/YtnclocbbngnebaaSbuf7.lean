/-
  The reference's Do of layer 5.
  Conditions: those that each theorem states.
-/
import Derived.Test.YtnclocbbngnebaaSbuf6
namespace Go.Proofs.Ytnclocbbngnebaa
open Go.ChangeShapes Go.WideShapes Go.ChangeAt Go.RowKit

/-- The world in which the reference's Do works: the buffer, the call, and its two answers in new blocks. -/
def inR (w : World) (N : Nat) (v : Value) (K a b : Int) : World := (((w.alloc (.cells #[.int .i64 N, v] 33)).alloc (.cells #[.int .i64 K, .int .i64 a, .int .i64 b] 26)).alloc (.cells #[.int .i64 0, .slice none 0 0] 33)).alloc (.cells #[.int .i64 0, .int .i64 0] 24)

section
variable (w : World) (N : Nat) (v : Value) (K a b : Int)

theorem inR_below : Below w.heap.size w (inR w N v K a b) := below_on (below_on (below_on (below_al _ _) (below_al _ _)) (below_al _ _)) (below_al _ _)
theorem inR_size : (inR w N v K a b).heap.size = w.heap.size + 1 + 1 + 1 + 1 := by simp [inR]
theorem inR_row0 : Row (inR w N v K a b) w.heap.size 33 [.int .i64 N, v] :=
  (((Row.new w 33 #[.int .i64 N, v]).below (below_al _ _)).below (below_al _ _)).below (below_al _ _)
theorem inR_row2 : Row (inR w N v K a b) (w.heap.size + 1 + 1) 33 [.int .i64 0, .slice none 0 0] := by
  have h := (Row.new ((w.alloc (.cells #[.int .i64 N, v] 33)).alloc (.cells #[.int .i64 K, .int .i64 a, .int .i64 b] 26)) 33 #[.int .i64 0, .slice none 0 0]).below (below_al _ (.cells #[.int .i64 0, .int .i64 0] 24))
  simpa [inR] using h
theorem inR_row3 : Row (inR w N v K a b) (w.heap.size + 1 + 1 + 1) 24 [.int .i64 0, .int .i64 0] := by
  have h := Row.new (((w.alloc (.cells #[.int .i64 N, v] 33)).alloc (.cells #[.int .i64 K, .int .i64 a, .int .i64 b] 26)).alloc (.cells #[.int .i64 0, .slice none 0 0] 33)) 24 #[.int .i64 0, .int .i64 0]
  simpa [inR] using h
end

/-- Blocks of the reference's Do itself; blocks in which its list may lie. -/
def ownR (w : World) (b : Nat) : Prop := w.heap.size ≤ b ∧ b < w.heap.size + 1 + 1 + 1 + 1
def farR (w : World) (P : Nat → Prop) (b : Nat) : Prop := P b ∧ ¬ ownR w b

/-- What Do leaves, from what its callee left. -/
theorem finR {w w1 W : World} {P : Nat → Prop} {N : Nat} {q : List (Int × Int)} {A : Option Addr} {n c : Nat} {rest : List Value} (hv : Two w1 (farR w P) (.slice A n c) (sts q)) (hcap : CapOk (.slice A n c)) (hb : Below w.heap.size w w1) (hO : Only (ownR w) w1 W) :
    RBufP P N q rest w (.returned (.tuple (rbufV N (.slice A n c) :: rest).toArray)) W :=
  ⟨_, rfl, (hv.only hO (fun _ hg hp => hp.2 hg)).weak (fun _ _ hp => hp.1), hcap, Only.below hb hO hb.size (fun g hg e => by unfold ownR at e; omega)⟩

theorem ownR2 (w : World) : ownR w (w.heap.size + 1 + 1) := by unfold ownR; omega
theorem ownR3 (w : World) : ownR w (w.heap.size + 1 + 1 + 1) := by unfold ownR; omega

set_option maxHeartbeats 1000000 in
theorem rdo5_put (P : Nat → Prop) (N : Nat) (v : Value) (q : List (Int × Int)) (a b : Int) (w : World) (hv : Two w P v (sts q)) (hcap : CapOk v) (hq : q.length ≤ N) (hN : N ≤ 16) (hP : ∀ b, w.heap.size ≤ b → P b) :
    Calls Try.prog 9 #[rbufV N v, opV5 0 a b] w (RBufP P N (bputQ N q a b) [stV 0 0, .int .i64 (bputE N q a b)] w) := by
  have hv' := ((hv.weak (Q := farR w P) (fun g hg hp => ⟨hp, fun e => by unfold ownR at e; omega⟩)).below (inR_below w N v 0 a b))
  have k := Lib.hid (rbput_any _ N v q a b _ hv' hcap hq hN (fun c hc => ⟨hP c (by rw [inR_size] at hc; omega), fun e => by rw [inR_size] at hc; unfold ownR at e; omega⟩))
  clear hv hv' hP
  unfold rbufV stV at k
  unfold rbufV opV5 stV
  go_enter Try.func9, Try.ntmps9
  go_wp2_with fail
  refine k.out.mono ?_
  rintro e w1 ⟨v1, rfl, hL1, hc1, hb1⟩
  have r2 := (inR_row2 w N v 0 a b).below hb1
  have r3 := (inR_row3 w N v 0 a b).below hb1
  have c0 := r2.cell 0
  have c1 := r2.cell 1
  have d0 := r3.cell 0
  have d1 := r3.cell 1
  have e0 := r2.soft 0
  have e1 := r2.soft 1
  have f0 := r3.soft 0
  have f1 := r3.soft 1
  have l2 := r2.lt
  have l3 := r3.lt
  simp only [List.getElem?_cons_zero, List.getElem?_cons_succ] at c0 c1 d0 d1
  obtain ⟨A1, n1, c1', rfl, HN1, HL⟩ := hL1.open_
  have HB := Lib.hid (below_on (inR_below w N v 0 a b) hb1)
  have HC := Lib.hid hc1
  have m2 : w1.heap.size ≠ w.heap.size + 1 + 1 := by omega
  have m3 : w1.heap.size ≠ w.heap.size + 1 + 1 + 1 := by omega
  unfold rbufV
  clear r2 r3 hL1 hb1 hc1 k
  go_wp2
  refine bodyPost_ret (v := .tuple #[.agg #[.int .i64 N, .slice A1 n1 c1'], .agg #[.int .i64 0, .int .i64 0], .int .i64 (bputE N q a b)]) (by simp [results, Try.results9, go_sem, *]) rfl (finR HL.out HC.out HB.out ?_)
  repeat (first | exact Only.refl _ _ | exact ownR2 w | exact ownR3 w | refine Only.alloc ?_ _ | refine Only.setCell ?_ (.inl ?_) _)

set_option maxHeartbeats 1000000 in
theorem rdo5_drain (P : Nat → Prop) (N : Nat) (v : Value) (q : List (Int × Int)) (a b : Int) (w : World) (hv : Two w P v (sts q)) (hcap : CapOk v) (hq : q.length ≤ N) (hN : N ≤ 16) :
    Calls Try.prog 9 #[rbufV N v, opV5 1 a b] w (RBufP P N q.tail [stV (q.headD (0, 0)).1 (q.headD (0, 0)).2, .int .i64 (if q = [] then 0 else 1)] w) := by
  have hv' := ((hv.weak (Q := farR w P) (fun g hg hp => ⟨hp, fun e => by unfold ownR at e; omega⟩)).below (inR_below w N v 1 a b))
  have k := rbdrain_any _ N v q _ hv' hcap (by omega)
  clear hv hv'
  obtain ⟨x, y, o, f, hr, hx, hy, hf, ho⟩ : ∃ (x y : Int) (o : Bool) (f : Int), rdrL q = [stV x y, .bool o] ∧ (q.headD (0, 0)).1 = x ∧ (q.headD (0, 0)).2 = y ∧ (if q = [] then 0 else 1) = f ∧ ((o = true ∧ f = 1) ∨ (o = false ∧ f = 0)) := by
    cases q with
    | nil => exact ⟨0, 0, false, 0, rfl, rfl, rfl, rfl, .inr ⟨rfl, rfl⟩⟩
    | cons p t => exact ⟨p.1, p.2, true, 1, rfl, rfl, rfl, rfl, .inl ⟨rfl, rfl⟩⟩
  rw [hr] at k
  rw [hx, hy, hf]
  have K' := Lib.hid k
  clear k hr hx hy hf hq
  unfold rbufV stV at K'
  unfold rbufV opV5 stV
  rcases ho with ⟨rfl, rfl⟩ | ⟨rfl, rfl⟩
  all_goals
    go_enter Try.func9, Try.ntmps9
    go_wp2_with fail
    refine K'.out.mono ?_
    rintro e w1 ⟨v1, rfl, hL1, hc1, hb1⟩
    obtain ⟨A1, n1, c1', rfl, HN1, HL⟩ := hL1.open_
    have HB := Lib.hid (below_on (below_on (inR_below w N v 1 a b) hb1) (below_on (below_al w1 (.cells #[.int .i64 N, .slice A1 n1 c1'] 33)) (below_al _ (.cells #[.int .i64 x, .int .i64 y] 24))))
    have HL2 := Lib.hid (HL.out.below (below_on (below_al w1 (.cells #[.int .i64 N, .slice A1 n1 c1'] 33)) (below_al _ (.cells #[.int .i64 x, .int .i64 y] 24))))
    have r2 := ((inR_row2 w N v 1 a b).below hb1).below (below_on (below_al w1 (.cells #[.int .i64 N, .slice A1 n1 c1'] 33)) (below_al _ (.cells #[.int .i64 x, .int .i64 y] 24)))
    have r3 := ((inR_row3 w N v 1 a b).below hb1).below (below_on (below_al w1 (.cells #[.int .i64 N, .slice A1 n1 c1'] 33)) (below_al _ (.cells #[.int .i64 x, .int .i64 y] 24)))
    have r4 := (Row.new w1 33 #[.int .i64 N, .slice A1 n1 c1']).below (below_al _ (.cells #[.int .i64 x, .int .i64 y] 24))
    have r5 := Row.new (w1.alloc (.cells #[.int .i64 N, .slice A1 n1 c1'] 33)) 24 #[.int .i64 x, .int .i64 y]
    rw [World.size_alloc] at r5
    have l3 := ((inR_row3 w N v 1 a b).below hb1).lt
    have HC := Lib.hid hc1
    have m2 : w1.heap.size ≠ w.heap.size + 1 + 1 := by omega
    have m3 : w1.heap.size ≠ w.heap.size + 1 + 1 + 1 := by omega
    have m4 : w1.heap.size + 1 ≠ w.heap.size + 1 + 1 := by omega
    have m5 : w1.heap.size + 1 ≠ w.heap.size + 1 + 1 + 1 := by omega
    unfold rbufV
    clear hL1 hb1 hc1 K' HL
    go_wp2
    generalize (w1.alloc (.cells #[.int .i64 N, .slice A1 n1 c1'] 33)).alloc (.cells #[.int .i64 x, .int .i64 y] 24) = w5 at r2 r3 r4 r5 HB HL2 ⊢
    have c0 := r2.cell 0
    have c1 := r2.cell 1
    have d0 := r3.cell 0
    have d1 := r3.cell 1
    have e0 := r2.soft 0
    have e1 := r2.soft 1
    have f0 := r3.soft 0
    have f1 := r3.soft 1
    have g0 := r4.cell 0
    have g1 := r4.cell 1
    have i0 := r5.cell 0
    have i1 := r5.cell 1
    simp only [List.getElem?_cons_zero, List.getElem?_cons_succ] at c0 c1 d0 d1 g0 g1 i0 i1
    clear r2 r3 r4 r5
    go_region
    go_wp2
    refine bodyPost_ret (v := .tuple #[.agg #[.int .i64 N, .slice A1 n1 c1'], .agg #[.int .i64 x, .int .i64 y], _]) (by simp [results, Try.results9, go_sem, *]) rfl (finR HL2.out HC.out HB.out ?_)
    repeat (first | exact Only.refl _ _ | exact ownR2 w | exact ownR3 w | refine Only.alloc ?_ _ | refine Only.drewN ?_ _ | refine Only.drew ?_ | refine Only.setCell ?_ (.inl ?_) _)

#print axioms rdo5_put
#print axioms rdo5_drain
end Go.Proofs.Ytnclocbbngnebaa
