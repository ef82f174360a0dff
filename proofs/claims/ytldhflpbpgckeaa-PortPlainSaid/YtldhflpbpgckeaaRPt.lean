/-
  Layer 14 (port): the reference's Of, and its Do for loads, fences, epochs and other kinds.
  Conditions: those that each theorem states.
-/
import Derived.Test.YtldhflpbpgckeaaPt9
namespace Go.Proofs.Ytldhflpbpgckeaa
open Go.ChangeShapes Go.WideShapes Go.ChangeAt Go.RowKit

/-- The reference's words, epochs and kicks: three slices that read as lists. -/
structure RPl14 (w : World) (P : Nat → Prop) (V E K : List Int) (x y z : Value) : Prop where
  words : Lies w P x (ints V)
  epochs : Lies w P y (ints E)
  kicks : Lies w P z (ints K)
  cx : CapOk x
  cy : CapOk y
  cz : CapOk z
theorem RPl14.weak {w : World} {P Q : Nat → Prop} {V E K : List Int} {x y z : Value} (r : RPl14 w P V E K x y z) (hPQ : ∀ g, g < w.heap.size → P g → Q g) : RPl14 w Q V E K x y z :=
  ⟨r.words.weak hPQ, r.epochs.weak hPQ, r.kicks.weak hPQ, r.cx, r.cy, r.cz⟩
theorem RPl14.only {S : Nat → Prop} {w w' : World} {P : Nat → Prop} {V E K : List Int} {x y z : Value} (r : RPl14 w P V E K x y z) (ho : Only S w w') (hr : ∀ g, S g → ¬ P g) : RPl14 w' P V E K x y z :=
  ⟨r.words.only ho hr, r.epochs.only ho hr, r.kicks.only ho hr, r.cx, r.cy, r.cz⟩
theorem RPl14.below {w w' : World} {P : Nat → Prop} {V E K : List Int} {x y z : Value} (r : RPl14 w P V E K x y z) (hb : Below w.heap.size w w') : RPl14 w' P V E K x y z :=
  ⟨r.words.below hb, r.epochs.below hb, r.kicks.below hb, r.cx, r.cy, r.cz⟩

set_option maxRecDepth 100000 in
set_option maxHeartbeats 1000000 in
theorem rof14_any (P Q : Nat → Prop) (l m : List Int) (v u : Value) (w : World) (hv : Lies w P v (ints l)) (hu : Lies w Q u (ints m)) (hl : l.length ≤ 65536) (hm : m.length ≤ 65536) :
    Calls Try.prog 7 #[v, u] w fun e w' => ∃ A n c B k d, e = .returned (.agg #[.slice A n c, .slice B k d, .slice none 0 0]) ∧ RPl14 w' (w.heap.size ≤ ·) (mod14 l) (mod14 m) [] (.slice A n c) (.slice B k d) (.slice none 0 0) ∧ Below w.heap.size w w' := by
  have b0 := below_al w (.cells #[.slice none 0 0, .slice none 0 0, .slice none 0 0] 30)
  have B0 := Lib.hid b0
  have R0 := Lib.hid (Row.new w 30 #[.slice none 0 0, .slice none 0 0, .slice none 0 0])
  clear b0
  go_enter Try.func7, Try.ntmps7
  go_wp2_with fail
  refine (all14_any P l v _ (hv.below B0.out) hl).mono ?_
  rintro e w1 ⟨v1, rfl, o1, hb1⟩
  obtain ⟨A, c, rfl⟩ := own_open14 o1
  have H1 := Lib.hid o1
  have HB1 := Lib.hid hb1
  clear o1 hb1
  go_wp2_with fail
  refine (all14_any Q m u _ ((hu.below B0.out).below HB1.out) hm).mono ?_
  rintro e w2 ⟨v2, rfl, o2, hb2⟩
  obtain ⟨B, d, rfl⟩ := own_open14 o2
  have H2 := Lib.hid o2
  have HB2 := Lib.hid hb2
  have R2 := Lib.hid ((R0.out.below HB1.out).below HB2.out)
  have c0 := R2.out.cell 0
  have c1 := R2.out.cell 1
  have c2 := R2.out.cell 2
  have f0 := R2.out.soft 0
  have f1 := R2.out.soft 1
  have f2 := R2.out.soft 2
  simp only [List.getElem?_cons_zero, List.getElem?_cons_succ] at c0 c1 c2
  clear o2 hb2
  go_wp2
  have hO : Only (· = w.heap.size) w2 (((w2.setCell ⟨w.heap.size, 0, none⟩ (.slice A l.length c)).setCell ⟨w.heap.size, 1, none⟩ (.slice B m.length d)).setCell ⟨w.heap.size, 2, none⟩ (.slice none 0 0)) :=
    (((Only.refl (· = w.heap.size) w2).setCell (p := ⟨w.heap.size, 0, none⟩) (.inl rfl) _).setCell (p := ⟨w.heap.size, 1, none⟩) (.inl rfl) _).setCell (p := ⟨w.heap.size, 2, none⟩) (.inl rfl) _
  have hb := below_on (below_on B0.out HB1.out) HB2.out
  have hs := size_al w (.cells #[.slice none 0 0, .slice none 0 0, .slice none 0 0] 30)
  have hs1 := HB1.out.size
  have L1 : Lies w2 (fun g => w.heap.size < g) (.slice A l.length c) (ints (mod14 l)) := ((Lies.of_own H1.out).weak (fun g _ h => by rw [hs] at h; omega)).below HB2.out
  have L2 : Lies w2 (fun g => w.heap.size < g) (.slice B m.length d) (ints (mod14 m)) := (Lies.of_own H2.out).weak (fun g _ h => by rw [hs] at hs1; omega)
  refine bodyPost_ret (v := .agg #[.slice A l.length c, .slice B m.length d, .slice none 0 0]) (by simp [results, Try.results7, go_sem, *]) rfl ⟨_, _, _, _, _, _, rfl, ⟨(L1.only hO (by omega)).weak (fun g _ h => by omega), (L2.only hO (by omega)).weak (fun g _ h => by omega), Lies.nil_ _ _, CapOk.of_own H1.out, CapOk.of_own H2.out, rfl⟩, Only.below hb hO hb.size (by omega)⟩

/-- The four variables of Do. -/
def four14 (w : World) (x y z : Value) (κ i u : Int) : World :=
  (((w.alloc (.cells #[x, y, z] 30)).alloc (.cells #[.int .i64 κ, .int .i64 i, .int .i64 u] 33)).alloc (.cells #[.slice none 0 0, .slice none 0 0, .slice none 0 0] 30)).alloc (.cells #[.int .i64 0, .int .i64 0, .int .i64 0] 33)

theorem four14_rows (w : World) (x y z : Value) (κ i u : Int) : Row (four14 w x y z κ i u) w.heap.size 30 [x, y, z] ∧ Row (four14 w x y z κ i u) (w.heap.size + 1) 33 [.int .i64 κ, .int .i64 i, .int .i64 u] ∧ Row (four14 w x y z κ i u) (w.heap.size + 1 + 1) 30 [.slice none 0 0, .slice none 0 0, .slice none 0 0] ∧ Row (four14 w x y z κ i u) (w.heap.size + 1 + 1 + 1) 33 [.int .i64 0, .int .i64 0, .int .i64 0] ∧ Below w.heap.size w (four14 w x y z κ i u) ∧ (four14 w x y z κ i u).heap.size = w.heap.size + 1 + 1 + 1 + 1 := by
  unfold four14
  refine ⟨(((Row.new w _ #[x, y, z]).below (below_al _ _)).below (below_al _ _)).below (below_al _ _), ?_, ?_, ?_, below_on (below_on (below_on (below_al _ _) (below_al _ _)) (below_al _ _)) (below_al _ _), by simp⟩
  · have := ((Row.new (w.alloc (.cells #[x, y, z] 30)) 33 #[.int .i64 κ, .int .i64 i, .int .i64 u]).below (below_al _ (.cells #[.slice none 0 0, .slice none 0 0, .slice none 0 0] 30))).below (below_al _ (.cells #[.int .i64 0, .int .i64 0, .int .i64 0] 33))
    rwa [size_al] at this
  · have := (Row.new ((w.alloc (.cells #[x, y, z] 30)).alloc (.cells #[.int .i64 κ, .int .i64 i, .int .i64 u] 33)) 30 #[.slice none 0 0, .slice none 0 0, .slice none 0 0]).below (below_al _ (.cells #[.int .i64 0, .int .i64 0, .int .i64 0] 33))
    rwa [size_al, size_al] at this
  · have := Row.new (((w.alloc (.cells #[x, y, z] 30)).alloc (.cells #[.int .i64 κ, .int .i64 i, .int .i64 u] 33)).alloc (.cells #[.slice none 0 0, .slice none 0 0, .slice none 0 0] 30)) 33 #[.int .i64 0, .int .i64 0, .int .i64 0]
    rwa [size_al, size_al, size_al] at this

/-- What Do leaves. -/
def RDo14 (P : Nat → Prop) (V E K : List Int) (x : Tch) (n : Int) (w : World) (e : Ending) (w' : World) : Prop :=
  ∃ A1 n1 c1 A2 n2 c2 A3 n3 c3, e = .returned (.tuple #[.agg #[.slice A1 n1 c1, .slice A2 n2 c2, .slice A3 n3 c3], touchV x.1 x.2.1 x.2.2, .int .i64 n]) ∧ RPl14 w' P V E K (.slice A1 n1 c1) (.slice A2 n2 c2) (.slice A3 n3 c3) ∧ Below w.heap.size w w'

theorem rdo14_end {P : Nat → Prop} {V E K : List Int} {x : Tch} {n : Int} {w w1 w' : World} {A1 A2 A3 : Option Addr} {n1 c1 n2 c2 n3 c3 : Nat} (hb : Below w.heap.size w w1) (ho : Only (fun g => w.heap.size ≤ g ∧ g < w.heap.size + 4) w1 w')
    (r : RPl14 w1 (fun g => P g ∧ (g < w.heap.size ∨ w.heap.size + 4 ≤ g)) V E K (.slice A1 n1 c1) (.slice A2 n2 c2) (.slice A3 n3 c3)) :
    RDo14 P V E K x n w (.returned (.tuple #[.agg #[.slice A1 n1 c1, .slice A2 n2 c2, .slice A3 n3 c3], touchV x.1 x.2.1 x.2.2, .int .i64 n])) w' :=
  ⟨A1, n1, c1, A2, n2, c2, A3, n3, c3, rfl, (r.only ho (fun g h hp => by omega)).weak (fun g _ h => h.1), Only.below hb ho hb.size (fun g hg h => by omega)⟩

section
variable {P : Nat → Prop} {V E K : List Int} {A1 A2 A3 : Option Addr} {n1 c1 n2 c2 n3 c3 : Nat}

set_option maxRecDepth 100000 in
set_option maxHeartbeats 2000000 in
theorem rdo14_load (i u : Int) (w : World) (r : RPl14 w P V E K (.slice A1 n1 c1) (.slice A2 n2 c2) (.slice A3 n3 c3)) :
    Calls Try.prog 8 #[.agg #[.slice A1 n1 c1, .slice A2 n2 c2, .slice A3 n3 c3], touchV 1 i u] w (RDo14 P V E K ((1, i, nth14 V i) : Tch) (nth14 V i) w) := by
  have R0 := Lib.hid r
  have R := Lib.hid (r.below (four14_rows w (.slice A1 n1 c1) (.slice A2 n2 c2) (.slice A3 n3 c3) 1 i u).2.2.2.2.1)
  unfold four14 at R
  clear r
  unfold touchV
  go_enter Try.func8, Try.ntmps8
  go_wp2_with (go_at_call 18; refine (get14_any _ V _ i _ R.out.words).mono ?_; rintro e w' ⟨rfl, rfl⟩)
  go_region
  all_goals go_wp2
  all_goals exact bodyPost_ret (v := .tuple #[.agg #[.slice A1 n1 c1, .slice A2 n2 c2, .slice A3 n3 c3], touchV ((1, i, nth14 V i) : Tch).1 ((1, i, nth14 V i) : Tch).2.1 ((1, i, nth14 V i) : Tch).2.2, .int .i64 (nth14 V i)]) (by simp [results, Try.results8, go_sem, touchV]) rfl ⟨_, _, _, _, _, _, _, _, _, rfl, R0.out.below (by go_grown), by go_grown⟩

set_option maxRecDepth 100000 in
set_option maxHeartbeats 2000000 in
theorem rdo14_epoch (i u : Int) (w : World) (r : RPl14 w P V E K (.slice A1 n1 c1) (.slice A2 n2 c2) (.slice A3 n3 c3)) :
    Calls Try.prog 8 #[.agg #[.slice A1 n1 c1, .slice A2 n2 c2, .slice A3 n3 c3], touchV 4 i u] w (RDo14 P V E K ((4, i, nth14 E i) : Tch) (nth14 E i) w) := by
  have R0 := Lib.hid r
  have R := Lib.hid (r.below (four14_rows w (.slice A1 n1 c1) (.slice A2 n2 c2) (.slice A3 n3 c3) 4 i u).2.2.2.2.1)
  unfold four14 at R
  clear r
  unfold touchV
  go_enter Try.func8, Try.ntmps8
  go_wp2_with (go_at_call 18; refine (get14_any _ E _ i _ R.out.epochs).mono ?_; rintro e w' ⟨rfl, rfl⟩)
  go_region
  all_goals go_wp2
  all_goals exact bodyPost_ret (v := .tuple #[.agg #[.slice A1 n1 c1, .slice A2 n2 c2, .slice A3 n3 c3], touchV ((4, i, nth14 E i) : Tch).1 ((4, i, nth14 E i) : Tch).2.1 ((4, i, nth14 E i) : Tch).2.2, .int .i64 (nth14 E i)]) (by simp [results, Try.results8, go_sem, touchV]) rfl ⟨_, _, _, _, _, _, _, _, _, rfl, R0.out.below (by go_grown), by go_grown⟩

set_option maxRecDepth 100000 in
set_option maxHeartbeats 2000000 in
theorem rdo14_fence (i u : Int) (w : World) (r : RPl14 w P V E K (.slice A1 n1 c1) (.slice A2 n2 c2) (.slice A3 n3 c3)) :
    Calls Try.prog 8 #[.agg #[.slice A1 n1 c1, .slice A2 n2 c2, .slice A3 n3 c3], touchV 3 i u] w (RDo14 P V E K ((3, 0, 0) : Tch) 0 w) := by
  have R0 := Lib.hid r
  have R := Lib.hid (r.below (four14_rows w (.slice A1 n1 c1) (.slice A2 n2 c2) (.slice A3 n3 c3) 3 i u).2.2.2.2.1)
  unfold four14 at R
  clear r
  unfold touchV
  go_enter Try.func8, Try.ntmps8
  go_wp2
  all_goals go_wp2
  all_goals exact bodyPost_ret (v := .tuple #[.agg #[.slice A1 n1 c1, .slice A2 n2 c2, .slice A3 n3 c3], touchV ((3, 0, 0) : Tch).1 ((3, 0, 0) : Tch).2.1 ((3, 0, 0) : Tch).2.2, .int .i64 (0)]) (by simp [results, Try.results8, go_sem, touchV]) rfl ⟨_, _, _, _, _, _, _, _, _, rfl, R0.out.below (by go_grown), by go_grown⟩

set_option maxRecDepth 100000 in
set_option maxHeartbeats 2000000 in
theorem rdo14_other (κ i u : Int) (h1 : κ ≠ 1) (h2 : κ ≠ 2) (h3 : κ ≠ 3) (h4 : κ ≠ 4) (h5 : κ ≠ 5) (w : World) (r : RPl14 w P V E K (.slice A1 n1 c1) (.slice A2 n2 c2) (.slice A3 n3 c3)) :
    Calls Try.prog 8 #[.agg #[.slice A1 n1 c1, .slice A2 n2 c2, .slice A3 n3 c3], touchV κ i u] w (RDo14 P V E K ((0, 0, 0) : Tch) 0 w) := by
  have R0 := Lib.hid r
  have R := Lib.hid (r.below (four14_rows w (.slice A1 n1 c1) (.slice A2 n2 c2) (.slice A3 n3 c3) κ i u).2.2.2.2.1)
  unfold four14 at R
  clear r
  unfold touchV
  have m1 : (κ == 1) = false := by simpa using h1
  have m2 : (κ == 2) = false := by simpa using h2
  have m3 : (κ == 3) = false := by simpa using h3
  have m4 : (κ == 4) = false := by simpa using h4
  have m5 : (κ == 5) = false := by simpa using h5
  clear h1 h2 h3 h4 h5
  go_enter Try.func8, Try.ntmps8
  go_wp2
  all_goals go_wp2
  all_goals exact bodyPost_ret (v := .tuple #[.agg #[.slice A1 n1 c1, .slice A2 n2 c2, .slice A3 n3 c3], touchV ((0, 0, 0) : Tch).1 ((0, 0, 0) : Tch).2.1 ((0, 0, 0) : Tch).2.2, .int .i64 (0)]) (by simp [results, Try.results8, go_sem, touchV]) rfl ⟨_, _, _, _, _, _, _, _, _, rfl, R0.out.below (by go_grown), by go_grown⟩

end

#print axioms rof14_any
#print axioms rdo14_load
#print axioms rdo14_other
end Go.Proofs.Ytldhflpbpgckeaa
