/-
  Layer 9 (mbox): the laws' do: a call by its kind.
  Conditions: those that each theorem states.
-/
import Derived.Test.YtfboikefjealfaaMb9
namespace Go.Proofs.Ytfboikefjealfaa
open Go.ChangeShapes Go.WideShapes Go.ChangeAt Go.RowKit

/-- A call as a value. -/
def opV9 (K c t x : Int) : Value := .agg #[.int .i64 K, .int .i64 c, .int .i64 t, .int .i64 x]
/-- What is told of a call, and its error. -/
def doV9 (F V E : Int) : Value := .tuple #[.agg #[.int .i64 F, .int .i64 V], .int .i64 E]

set_option maxRecDepth 100000 in
set_option maxHeartbeats 1000000 in
theorem do9_Ring (L : MLay) (ms : List Mail) (c t x : Int) (w : World) (r : BoxAt w L ms) :
    Calls Try.prog 11 #[.pointer (some ⟨L.g, 0, none⟩), opV9 0 c t x] w (BoxP L (rgMs ms c t x) (doV9 (0) (0) (rgErr ms c t x)) w) := by
  have hb : Below w.heap.size w ((w.alloc (.cells #[.int .i64 0, .int .i64 c, .int .i64 t, .int .i64 x] 30)).alloc (.cells #[.int .i64 0, .int .i64 0] 32)) := below_on (below_al _ _) (below_al _ _)
  have I0 := Row.new (w.alloc (.cells #[.int .i64 0, .int .i64 c, .int .i64 t, .int .i64 x] 30)) 32 #[.int .i64 0, .int .i64 0]
  rw [size_al] at I0
  have hn := r.new_not (show w.heap.size ≤ w.heap.size + 1 by omega)
  have hl : (rgMs ms c t x).length = ms.length := rgMs_len _ _ _ _
  have X := ring9_any L ms c t x _ (r.below hb)
  obtain ⟨Z0, hZ0⟩ : ∃ Z : Int, Z = rgErr ms c t x := ⟨_, rfl⟩
  rw [← hZ0] at X ⊢
  have XX := Lib.hid X
  have HI := Lib.hid I0
  have HN := Lib.hid hn
  have HB := Lib.hid hb
  have HR := Lib.hid r
  clear hb r hn I0 X hZ0
  unfold opV9 doV9
  go_enter Try.func11, Try.ntmps11
  go_wp2_with (go_at_call 18; refine XX.out.mono ?_; rintro e w2 ⟨rfl, hr2, ho2⟩; have I2 := HI.out.only ho2 (by rw [hl]; exact HN.out); have x0 := I2.cell 0; have x1 := I2.cell 1; have y0 := I2.soft 0; have y1 := I2.soft 1; simp only [List.getElem?_cons_zero, List.getElem?_cons_succ] at x0 x1; have HR2 := Lib.hid hr2; have HO2 := Lib.hid ((Only.of_below HB.out _).trans ho2); clear hr2 ho2 I2)
  refine bodyPost_ret (v := .tuple #[.agg #[.int .i64 (0), .int .i64 (0)], .int .i64 (Z0)]) (by simp [results, Try.results11, go_sem, *]) rfl ⟨rfl, (HR2.out.setVar (by rw [hl]; exact HN.out) 0 _).setVar (by rw [hl]; exact HN.out) 1 _, ?_⟩
  exact ((((HO2.out.mono (T := fun b => L.fp (rgMs ms c t x).length b ∨ b = w.heap.size + 1) (fun _ _ h => .inl h)).setCell (p := ⟨w.heap.size + 1, 0, none⟩) (.inl (.inr rfl)) _).setCell (p := ⟨w.heap.size + 1, 1, none⟩) (.inl (.inr rfl)) _).mono (fun b hb h => h.elim id (fun e => by omega)))

set_option maxRecDepth 100000 in
set_option maxHeartbeats 1000000 in
theorem do9_Ack (L : MLay) (ms : List Mail) (c t x : Int) (w : World) (r : BoxAt w L ms) :
    Calls Try.prog 11 #[.pointer (some ⟨L.g, 0, none⟩), opV9 2 c t x] w (BoxP L (akMs ms c x) (doV9 (0) (0) (cE ms c)) w) := by
  have hb : Below w.heap.size w ((w.alloc (.cells #[.int .i64 2, .int .i64 c, .int .i64 t, .int .i64 x] 30)).alloc (.cells #[.int .i64 0, .int .i64 0] 32)) := below_on (below_al _ _) (below_al _ _)
  have I0 := Row.new (w.alloc (.cells #[.int .i64 2, .int .i64 c, .int .i64 t, .int .i64 x] 30)) 32 #[.int .i64 0, .int .i64 0]
  rw [size_al] at I0
  have hn := r.new_not (show w.heap.size ≤ w.heap.size + 1 by omega)
  have hl : (akMs ms c x).length = ms.length := akMs_len _ _ _
  have X := ack9_any L ms c x _ (r.below hb)
  obtain ⟨Z0, hZ0⟩ : ∃ Z : Int, Z = cE ms c := ⟨_, rfl⟩
  rw [← hZ0] at X ⊢
  have XX := Lib.hid X
  have HI := Lib.hid I0
  have HN := Lib.hid hn
  have HB := Lib.hid hb
  have HR := Lib.hid r
  clear hb r hn I0 X hZ0
  unfold opV9 doV9
  go_enter Try.func11, Try.ntmps11
  go_wp2_with (go_at_call 20; refine XX.out.mono ?_; rintro e w2 ⟨rfl, hr2, ho2⟩; have I2 := HI.out.only ho2 (by rw [hl]; exact HN.out); have x0 := I2.cell 0; have x1 := I2.cell 1; have y0 := I2.soft 0; have y1 := I2.soft 1; simp only [List.getElem?_cons_zero, List.getElem?_cons_succ] at x0 x1; have HR2 := Lib.hid hr2; have HO2 := Lib.hid ((Only.of_below HB.out _).trans ho2); clear hr2 ho2 I2)
  refine bodyPost_ret (v := .tuple #[.agg #[.int .i64 (0), .int .i64 (0)], .int .i64 (Z0)]) (by simp [results, Try.results11, go_sem, *]) rfl ⟨rfl, (HR2.out.setVar (by rw [hl]; exact HN.out) 0 _).setVar (by rw [hl]; exact HN.out) 1 _, ?_⟩
  exact ((((HO2.out.mono (T := fun b => L.fp (akMs ms c x).length b ∨ b = w.heap.size + 1) (fun _ _ h => .inl h)).setCell (p := ⟨w.heap.size + 1, 0, none⟩) (.inl (.inr rfl)) _).setCell (p := ⟨w.heap.size + 1, 1, none⟩) (.inl (.inr rfl)) _).mono (fun b hb h => h.elim id (fun e => by omega)))

set_option maxRecDepth 100000 in
set_option maxHeartbeats 1000000 in
theorem do9_Take (L : MLay) (ms : List Mail) (c t x : Int) (w : World) (r : BoxAt w L ms) :
    Calls Try.prog 11 #[.pointer (some ⟨L.g, 0, none⟩), opV9 3 c t x] w (BoxP L (tkMs ms c) (doV9 (tkF9 ms c) (tkW9 ms c) (tkE9 ms c)) w) := by
  have hb : Below w.heap.size w ((w.alloc (.cells #[.int .i64 3, .int .i64 c, .int .i64 t, .int .i64 x] 30)).alloc (.cells #[.int .i64 0, .int .i64 0] 32)) := below_on (below_al _ _) (below_al _ _)
  have I0 := Row.new (w.alloc (.cells #[.int .i64 3, .int .i64 c, .int .i64 t, .int .i64 x] 30)) 32 #[.int .i64 0, .int .i64 0]
  rw [size_al] at I0
  have hn := r.new_not (show w.heap.size ≤ w.heap.size + 1 by omega)
  have hl : (tkMs ms c).length = ms.length := tkMs_len _ _
  have X := take9_any L ms c _ (r.below hb)
  obtain ⟨Z0, hZ0⟩ : ∃ Z : Int, Z = tkF9 ms c := ⟨_, rfl⟩
  rw [← hZ0] at X ⊢
  obtain ⟨Z1, hZ1⟩ : ∃ Z : Int, Z = tkW9 ms c := ⟨_, rfl⟩
  rw [← hZ1] at X ⊢
  obtain ⟨Z2, hZ2⟩ : ∃ Z : Int, Z = tkE9 ms c := ⟨_, rfl⟩
  rw [← hZ2] at X ⊢
  have XX := Lib.hid X
  have HI := Lib.hid I0
  have HN := Lib.hid hn
  have HB := Lib.hid hb
  have HR := Lib.hid r
  clear hb r hn I0 X hZ0 hZ1 hZ2
  unfold opV9 doV9
  go_enter Try.func11, Try.ntmps11
  go_wp2_with (go_at_call 19; refine XX.out.mono ?_; rintro e w2 ⟨rfl, hr2, ho2⟩; have I2 := HI.out.only ho2 (by rw [hl]; exact HN.out); have x0 := I2.cell 0; have x1 := I2.cell 1; have y0 := I2.soft 0; have y1 := I2.soft 1; simp only [List.getElem?_cons_zero, List.getElem?_cons_succ] at x0 x1; have HR2 := Lib.hid hr2; have HO2 := Lib.hid ((Only.of_below HB.out _).trans ho2); clear hr2 ho2 I2)
  refine bodyPost_ret (v := .tuple #[.agg #[.int .i64 (Z0), .int .i64 (Z1)], .int .i64 (Z2)]) (by simp [results, Try.results11, go_sem, *]) rfl ⟨rfl, (HR2.out.setVar (by rw [hl]; exact HN.out) 0 _).setVar (by rw [hl]; exact HN.out) 1 _, ?_⟩
  exact ((((HO2.out.mono (T := fun b => L.fp (tkMs ms c).length b ∨ b = w.heap.size + 1) (fun _ _ h => .inl h)).setCell (p := ⟨w.heap.size + 1, 0, none⟩) (.inl (.inr rfl)) _).setCell (p := ⟨w.heap.size + 1, 1, none⟩) (.inl (.inr rfl)) _).mono (fun b hb h => h.elim id (fun e => by omega)))

set_option maxRecDepth 100000 in
set_option maxHeartbeats 1000000 in
theorem do9_Reset (L : MLay) (ms : List Mail) (c t x : Int) (w : World) (r : BoxAt w L ms) :
    Calls Try.prog 11 #[.pointer (some ⟨L.g, 0, none⟩), opV9 4 c t x] w (BoxP L (rsMs ms c) (doV9 (0) (wtV ms c) (cE ms c)) w) := by
  have hb : Below w.heap.size w ((w.alloc (.cells #[.int .i64 4, .int .i64 c, .int .i64 t, .int .i64 x] 30)).alloc (.cells #[.int .i64 0, .int .i64 0] 32)) := below_on (below_al _ _) (below_al _ _)
  have I0 := Row.new (w.alloc (.cells #[.int .i64 4, .int .i64 c, .int .i64 t, .int .i64 x] 30)) 32 #[.int .i64 0, .int .i64 0]
  rw [size_al] at I0
  have hn := r.new_not (show w.heap.size ≤ w.heap.size + 1 by omega)
  have hl : (rsMs ms c).length = ms.length := rsMs_len _ _
  have X := reset9_any L ms c _ (r.below hb)
  obtain ⟨Z0, hZ0⟩ : ∃ Z : Int, Z = wtV ms c := ⟨_, rfl⟩
  rw [← hZ0] at X ⊢
  obtain ⟨Z1, hZ1⟩ : ∃ Z : Int, Z = cE ms c := ⟨_, rfl⟩
  rw [← hZ1] at X ⊢
  have XX := Lib.hid X
  have HI := Lib.hid I0
  have HN := Lib.hid hn
  have HB := Lib.hid hb
  have HR := Lib.hid r
  clear hb r hn I0 X hZ0 hZ1
  unfold opV9 doV9
  go_enter Try.func11, Try.ntmps11
  go_wp2_with (go_at_call 26; refine XX.out.mono ?_; rintro e w2 ⟨rfl, hr2, ho2⟩; have I2 := HI.out.only ho2 (by rw [hl]; exact HN.out); have x0 := I2.cell 0; have x1 := I2.cell 1; have y0 := I2.soft 0; have y1 := I2.soft 1; simp only [List.getElem?_cons_zero, List.getElem?_cons_succ] at x0 x1; have HR2 := Lib.hid hr2; have HO2 := Lib.hid ((Only.of_below HB.out _).trans ho2); clear hr2 ho2 I2)
  refine bodyPost_ret (v := .tuple #[.agg #[.int .i64 (0), .int .i64 (Z0)], .int .i64 (Z1)]) (by simp [results, Try.results11, go_sem, *]) rfl ⟨rfl, (HR2.out.setVar (by rw [hl]; exact HN.out) 0 _).setVar (by rw [hl]; exact HN.out) 1 _, ?_⟩
  exact ((((HO2.out.mono (T := fun b => L.fp (rsMs ms c).length b ∨ b = w.heap.size + 1) (fun _ _ h => .inl h)).setCell (p := ⟨w.heap.size + 1, 0, none⟩) (.inl (.inr rfl)) _).setCell (p := ⟨w.heap.size + 1, 1, none⟩) (.inl (.inr rfl)) _).mono (fun b hb h => h.elim id (fun e => by omega)))

set_option maxRecDepth 100000 in
set_option maxHeartbeats 1000000 in
theorem do9_Pending (L : MLay) (ms : List Mail) (K c t x : Int) (w : World) (r : BoxAt w L ms) (b0 : (K == 0) = false) (b2 : (K == 2) = false) (b3 : (K == 3) = false) (b4 : (K == 4) = false) :
    Calls Try.prog 11 #[.pointer (some ⟨L.g, 0, none⟩), opV9 K c t x] w (BoxP L (ms) (doV9 (0) (pdV ms c) (cE ms c)) w) := by
  have hb : Below w.heap.size w ((w.alloc (.cells #[.int .i64 K, .int .i64 c, .int .i64 t, .int .i64 x] 30)).alloc (.cells #[.int .i64 0, .int .i64 0] 32)) := below_on (below_al _ _) (below_al _ _)
  have I0 := Row.new (w.alloc (.cells #[.int .i64 K, .int .i64 c, .int .i64 t, .int .i64 x] 30)) 32 #[.int .i64 0, .int .i64 0]
  rw [size_al] at I0
  have hn := r.new_not (show w.heap.size ≤ w.heap.size + 1 by omega)
  have X := pend9_any L ms c _ (r.below hb)
  obtain ⟨Z0, hZ0⟩ : ∃ Z : Int, Z = pdV ms c := ⟨_, rfl⟩
  rw [← hZ0] at X ⊢
  obtain ⟨Z1, hZ1⟩ : ∃ Z : Int, Z = cE ms c := ⟨_, rfl⟩
  rw [← hZ1] at X ⊢
  have XX := Lib.hid X
  have HI := Lib.hid I0
  have HN := Lib.hid hn
  have HB := Lib.hid hb
  have HR := Lib.hid r
  clear hb r hn I0 X hZ0 hZ1
  unfold opV9 doV9
  go_enter Try.func11, Try.ntmps11
  go_wp2_with (go_at_call 12; refine XX.out.mono ?_; rintro e w2 ⟨rfl, hb2⟩; have I2 := HI.out.below hb2; have x0 := I2.cell 0; have x1 := I2.cell 1; have y0 := I2.soft 0; have y1 := I2.soft 1; simp only [List.getElem?_cons_zero, List.getElem?_cons_succ] at x0 x1; have HR2 := Lib.hid ((HR.out.below HB.out).below hb2); have HO2 := Lib.hid ((Only.of_below HB.out (L.fp ms.length)).trans (Only.of_below hb2 _)); clear hb2 I2)
  refine bodyPost_ret (v := .tuple #[.agg #[.int .i64 (0), .int .i64 (Z0)], .int .i64 (Z1)]) (by simp [results, Try.results11, go_sem, *]) rfl ⟨rfl, (HR2.out.setVar (HN.out) 0 _).setVar (HN.out) 1 _, ?_⟩
  exact ((((HO2.out.mono (T := fun b => L.fp (ms).length b ∨ b = w.heap.size + 1) (fun _ _ h => .inl h)).setCell (p := ⟨w.heap.size + 1, 0, none⟩) (.inl (.inr rfl)) _).setCell (p := ⟨w.heap.size + 1, 1, none⟩) (.inl (.inr rfl)) _).mono (fun b hb h => h.elim id (fun e => by omega)))

theorem do9_any (L : MLay) (ms : List Mail) (K c t x : Int) (w : World) (r : BoxAt w L ms) :
    Calls Try.prog 11 #[.pointer (some ⟨L.g, 0, none⟩), opV9 K c t x] w (BoxP L (dMs ms K c t x) (doV9 (dF ms K c) (dW ms K c) (dE ms K c t x)) w) := by
  unfold dMs dF dW dE
  by_cases h0 : K = 0
  · subst h0
    exact do9_Ring L ms c t x w r
  · rw [if_neg h0, if_neg h0, if_neg h0]
    by_cases h2 : K = 2
    · subst h2
      exact do9_Ack L ms c t x w r
    · rw [if_neg h2, if_neg h2]
      by_cases h3 : K = 3
      · subst h3
        exact do9_Take L ms c t x w r
      · rw [if_neg h3, if_neg h3, if_neg h3, if_neg h3]
        by_cases h4 : K = 4
        · subst h4
          exact do9_Reset L ms c t x w r
        · rw [if_neg h4, if_neg h4]
          exact do9_Pending L ms K c t x w r (by simpa using h0) (by simpa using h2) (by simpa using h3) (by simpa using h4)

set_option maxRecDepth 100000 in
set_option maxHeartbeats 1000000 in
theorem do9n_Ring (c t x : Int) (w : World) :
    Calls Try.prog 11 #[.pointer none, opV9 0 c t x] w (TellP (doV9 0 0 1) w) := by
  have hb : Below w.heap.size w ((w.alloc (.cells #[.int .i64 0, .int .i64 c, .int .i64 t, .int .i64 x] 30)).alloc (.cells #[.int .i64 0, .int .i64 0] 32)) := below_on (below_al _ _) (below_al _ _)
  have I0 := Row.new (w.alloc (.cells #[.int .i64 0, .int .i64 c, .int .i64 t, .int .i64 x] 30)) 32 #[.int .i64 0, .int .i64 0]
  rw [size_al] at I0
  have XX := fun W => Lib.hid (ring9_nil c t x W)
  have HI := Lib.hid I0
  have HB := Lib.hid hb
  clear hb I0
  unfold opV9 doV9
  go_enter Try.func11, Try.ntmps11
  go_wp2_with (go_at_call 18; refine (XX _).out.mono ?_; rintro e w2 ⟨rfl, hb2⟩; have I2 := HI.out.below hb2; have x0 := I2.cell 0; have x1 := I2.cell 1; have y0 := I2.soft 0; have y1 := I2.soft 1; simp only [List.getElem?_cons_zero, List.getElem?_cons_succ] at x0 x1; have HB2 := Lib.hid (below_on HB.out hb2); clear hb2 I2)
  exact bodyPost_ret (v := .tuple #[.agg #[.int .i64 0, .int .i64 0], .int .i64 1]) (by simp [results, Try.results11, go_sem, *]) rfl ⟨rfl, (HB2.out.setCell (p := ⟨w.heap.size + 1, 0, none⟩) (by show w.heap.size ≤ w.heap.size + 1; omega) _).setCell (p := ⟨w.heap.size + 1, 1, none⟩) (by show w.heap.size ≤ w.heap.size + 1; omega) _⟩

set_option maxRecDepth 100000 in
set_option maxHeartbeats 1000000 in
theorem do9n_Ack (c t x : Int) (w : World) :
    Calls Try.prog 11 #[.pointer none, opV9 2 c t x] w (TellP (doV9 0 0 1) w) := by
  have hb : Below w.heap.size w ((w.alloc (.cells #[.int .i64 2, .int .i64 c, .int .i64 t, .int .i64 x] 30)).alloc (.cells #[.int .i64 0, .int .i64 0] 32)) := below_on (below_al _ _) (below_al _ _)
  have I0 := Row.new (w.alloc (.cells #[.int .i64 2, .int .i64 c, .int .i64 t, .int .i64 x] 30)) 32 #[.int .i64 0, .int .i64 0]
  rw [size_al] at I0
  have XX := fun W => Lib.hid (ack9_nil c x W)
  have HI := Lib.hid I0
  have HB := Lib.hid hb
  clear hb I0
  unfold opV9 doV9
  go_enter Try.func11, Try.ntmps11
  go_wp2_with (go_at_call 20; refine (XX _).out.mono ?_; rintro e w2 ⟨rfl, hb2⟩; have I2 := HI.out.below hb2; have x0 := I2.cell 0; have x1 := I2.cell 1; have y0 := I2.soft 0; have y1 := I2.soft 1; simp only [List.getElem?_cons_zero, List.getElem?_cons_succ] at x0 x1; have HB2 := Lib.hid (below_on HB.out hb2); clear hb2 I2)
  exact bodyPost_ret (v := .tuple #[.agg #[.int .i64 0, .int .i64 0], .int .i64 1]) (by simp [results, Try.results11, go_sem, *]) rfl ⟨rfl, (HB2.out.setCell (p := ⟨w.heap.size + 1, 0, none⟩) (by show w.heap.size ≤ w.heap.size + 1; omega) _).setCell (p := ⟨w.heap.size + 1, 1, none⟩) (by show w.heap.size ≤ w.heap.size + 1; omega) _⟩

set_option maxRecDepth 100000 in
set_option maxHeartbeats 1000000 in
theorem do9n_Take (c t x : Int) (w : World) :
    Calls Try.prog 11 #[.pointer none, opV9 3 c t x] w (TellP (doV9 0 0 1) w) := by
  have hb : Below w.heap.size w ((w.alloc (.cells #[.int .i64 3, .int .i64 c, .int .i64 t, .int .i64 x] 30)).alloc (.cells #[.int .i64 0, .int .i64 0] 32)) := below_on (below_al _ _) (below_al _ _)
  have I0 := Row.new (w.alloc (.cells #[.int .i64 3, .int .i64 c, .int .i64 t, .int .i64 x] 30)) 32 #[.int .i64 0, .int .i64 0]
  rw [size_al] at I0
  have XX := fun W => Lib.hid (take9_nil c W)
  have HI := Lib.hid I0
  have HB := Lib.hid hb
  clear hb I0
  unfold opV9 doV9
  go_enter Try.func11, Try.ntmps11
  go_wp2_with (go_at_call 19; refine (XX _).out.mono ?_; rintro e w2 ⟨rfl, hb2⟩; have I2 := HI.out.below hb2; have x0 := I2.cell 0; have x1 := I2.cell 1; have y0 := I2.soft 0; have y1 := I2.soft 1; simp only [List.getElem?_cons_zero, List.getElem?_cons_succ] at x0 x1; have HB2 := Lib.hid (below_on HB.out hb2); clear hb2 I2)
  exact bodyPost_ret (v := .tuple #[.agg #[.int .i64 0, .int .i64 0], .int .i64 1]) (by simp [results, Try.results11, go_sem, *]) rfl ⟨rfl, (HB2.out.setCell (p := ⟨w.heap.size + 1, 0, none⟩) (by show w.heap.size ≤ w.heap.size + 1; omega) _).setCell (p := ⟨w.heap.size + 1, 1, none⟩) (by show w.heap.size ≤ w.heap.size + 1; omega) _⟩

set_option maxRecDepth 100000 in
set_option maxHeartbeats 1000000 in
theorem do9n_Reset (c t x : Int) (w : World) :
    Calls Try.prog 11 #[.pointer none, opV9 4 c t x] w (TellP (doV9 0 0 1) w) := by
  have hb : Below w.heap.size w ((w.alloc (.cells #[.int .i64 4, .int .i64 c, .int .i64 t, .int .i64 x] 30)).alloc (.cells #[.int .i64 0, .int .i64 0] 32)) := below_on (below_al _ _) (below_al _ _)
  have I0 := Row.new (w.alloc (.cells #[.int .i64 4, .int .i64 c, .int .i64 t, .int .i64 x] 30)) 32 #[.int .i64 0, .int .i64 0]
  rw [size_al] at I0
  have XX := fun W => Lib.hid (reset9_nil c W)
  have HI := Lib.hid I0
  have HB := Lib.hid hb
  clear hb I0
  unfold opV9 doV9
  go_enter Try.func11, Try.ntmps11
  go_wp2_with (go_at_call 26; refine (XX _).out.mono ?_; rintro e w2 ⟨rfl, hb2⟩; have I2 := HI.out.below hb2; have x0 := I2.cell 0; have x1 := I2.cell 1; have y0 := I2.soft 0; have y1 := I2.soft 1; simp only [List.getElem?_cons_zero, List.getElem?_cons_succ] at x0 x1; have HB2 := Lib.hid (below_on HB.out hb2); clear hb2 I2)
  exact bodyPost_ret (v := .tuple #[.agg #[.int .i64 0, .int .i64 0], .int .i64 1]) (by simp [results, Try.results11, go_sem, *]) rfl ⟨rfl, (HB2.out.setCell (p := ⟨w.heap.size + 1, 0, none⟩) (by show w.heap.size ≤ w.heap.size + 1; omega) _).setCell (p := ⟨w.heap.size + 1, 1, none⟩) (by show w.heap.size ≤ w.heap.size + 1; omega) _⟩

set_option maxRecDepth 100000 in
set_option maxHeartbeats 1000000 in
theorem do9n_Pending (K c t x : Int) (w : World) (b0 : (K == 0) = false) (b2 : (K == 2) = false) (b3 : (K == 3) = false) (b4 : (K == 4) = false) :
    Calls Try.prog 11 #[.pointer none, opV9 K c t x] w (TellP (doV9 0 0 1) w) := by
  have hb : Below w.heap.size w ((w.alloc (.cells #[.int .i64 K, .int .i64 c, .int .i64 t, .int .i64 x] 30)).alloc (.cells #[.int .i64 0, .int .i64 0] 32)) := below_on (below_al _ _) (below_al _ _)
  have I0 := Row.new (w.alloc (.cells #[.int .i64 K, .int .i64 c, .int .i64 t, .int .i64 x] 30)) 32 #[.int .i64 0, .int .i64 0]
  rw [size_al] at I0
  have XX := fun W => Lib.hid (pend9_nil c W)
  have HI := Lib.hid I0
  have HB := Lib.hid hb
  clear hb I0
  unfold opV9 doV9
  go_enter Try.func11, Try.ntmps11
  go_wp2_with (go_at_call 12; refine (XX _).out.mono ?_; rintro e w2 ⟨rfl, hb2⟩; have I2 := HI.out.below hb2; have x0 := I2.cell 0; have x1 := I2.cell 1; have y0 := I2.soft 0; have y1 := I2.soft 1; simp only [List.getElem?_cons_zero, List.getElem?_cons_succ] at x0 x1; have HB2 := Lib.hid (below_on HB.out hb2); clear hb2 I2)
  exact bodyPost_ret (v := .tuple #[.agg #[.int .i64 0, .int .i64 0], .int .i64 1]) (by simp [results, Try.results11, go_sem, *]) rfl ⟨rfl, (HB2.out.setCell (p := ⟨w.heap.size + 1, 0, none⟩) (by show w.heap.size ≤ w.heap.size + 1; omega) _).setCell (p := ⟨w.heap.size + 1, 1, none⟩) (by show w.heap.size ≤ w.heap.size + 1; omega) _⟩

theorem do9_nil (K c t x : Int) (w : World) :
    Calls Try.prog 11 #[.pointer none, opV9 K c t x] w (TellP (doV9 0 0 1) w) := by
  by_cases h0 : K = 0
  · subst h0
    exact do9n_Ring c t x w
  · by_cases h2 : K = 2
    · subst h2
      exact do9n_Ack c t x w
    · by_cases h3 : K = 3
      · subst h3
        exact do9n_Take c t x w
      · by_cases h4 : K = 4
        · subst h4
          exact do9n_Reset c t x w
        · exact do9n_Pending K c t x w (by simpa using h0) (by simpa using h2) (by simpa using h3) (by simpa using h4)

#print axioms do9_any
#print axioms do9_nil
end Go.Proofs.Ytfboikefjealfaa
