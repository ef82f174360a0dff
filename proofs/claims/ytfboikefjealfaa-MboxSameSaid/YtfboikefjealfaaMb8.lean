/-
  Layer 9 (mbox): the methods Ring, Pending, Ack, Take, Waits, Reset at a core that there is.
  Conditions: those that each theorem states.
-/
import Derived.Test.YtfboikefjealfaaMb7
namespace Go.Proofs.Ytfboikefjealfaa
open Go.ChangeShapes Go.WideShapes Go.ChangeAt Go.RowKit

set_option maxRecDepth 100000 in
set_option maxHeartbeats 1000000 in
theorem pend9_ok (L : MLay) (ms : List Mail) (i : Nat) (m : Mail) (w : World) (r : BoxAt w L ms) (hm : ms[i]? = some m) :
    Calls Try.prog 12 #[.pointer (some ⟨L.g, 0, none⟩), .int .i64 (i : Int)] w (TellP (.tuple #[.int .i64 (maskB m.1), .int .i64 0]) w) := by
  have hi := lt_of_at hm
  have hb : Below w.heap.size w (w.alloc (.cells #[.int .i64 0] 3)) := below_al _ _
  have X := Lib.hid (visit_Pending L ms i (.pointer (some ⟨w.heap.size, 0, none⟩)) _ (r.below hb) hi (fun z w' => z = 0 ∧ w' = (w.alloc (.cells #[.int .i64 0] 3)).setCell ⟨w.heap.size, 0, none⟩ (.int .i64 (maskB m.1)))
    ((pendC L ms i m w.heap.size 0 _ (r.below hb) hm (Row.new w 3 #[.int .i64 0])).mono (fun _ _ ⟨he, hw⟩ => ⟨0, he, rfl, hw⟩)))
  clear hb r hm
  go_enter Try.func12, Try.ntmps12
  go_wp2_with (go_at_call 27; refine X.out.mono ?_; rintro e w1 ⟨z, rfl, hz, rfl⟩; subst hz)
  exact bodyPost_ret (v := .tuple #[.int .i64 (maskB m.1), .int .i64 0]) (by simp [results, Try.results12, go_sem, *]) rfl ⟨rfl, below_al _ _⟩

set_option maxRecDepth 100000 in
set_option maxHeartbeats 1000000 in
theorem waits9_ok (L : MLay) (ms : List Mail) (i : Nat) (m : Mail) (w : World) (r : BoxAt w L ms) (hm : ms[i]? = some m) :
    Calls Try.prog 14 #[.pointer (some ⟨L.g, 0, none⟩), .int .i64 (i : Int)] w (TellP (.int .i64 m.2.length) w) := by
  have hi := lt_of_at hm
  have hb : Below w.heap.size w (w.alloc (.cells #[.int .i64 0] 3)) := below_al _ _
  have X := Lib.hid (visit_Waits L ms i (.pointer (some ⟨w.heap.size, 0, none⟩)) _ (r.below hb) hi (fun z w' => z = 0 ∧ w' = (w.alloc (.cells #[.int .i64 0] 3)).setCell ⟨w.heap.size, 0, none⟩ (.int .i64 m.2.length))
    ((waitsC L ms i m w.heap.size 0 _ (r.below hb) hm (Row.new w 3 #[.int .i64 0])).mono (fun _ _ ⟨he, hw⟩ => ⟨0, he, rfl, hw⟩)))
  clear hb r hm
  go_enter Try.func14, Try.ntmps14
  go_wp2_with (go_at_call 27; refine X.out.mono ?_; rintro e w1 ⟨z, rfl, hz, rfl⟩; subst hz)
  exact bodyPost_ret (v := .int .i64 m.2.length) (by simp [results, Try.results14, go_sem, *]) rfl ⟨rfl, below_al _ _⟩

set_option maxRecDepth 100000 in
set_option maxHeartbeats 1000000 in
theorem ack9_ok (L : MLay) (ms : List Mail) (i : Nat) (m : Mail) (x : Int) (w : World) (r : BoxAt w L ms) (hm : ms[i]? = some m) :
    Calls Try.prog 20 #[.pointer (some ⟨L.g, 0, none⟩), .int .i64 (i : Int), .int .i64 x] w (BoxP L (ms.set i (clrB m.1 x, m.2)) (.int .i64 0) w) := by
  have hi := lt_of_at hm
  have hb : Below w.heap.size w (w.alloc (.cells #[.int .i64 x] 3)) := below_al _ _
  have X := Lib.hid (visit_Ack L ms i (.pointer (some ⟨w.heap.size, 0, none⟩)) _ (r.below hb) hi (fun z w' => z = 0 ∧ BoxP L (ms.set i (clrB m.1 x, m.2)) (.int .i64 0) w (.returned (.int .i64 0)) w')
    ((ackC L ms i m w.heap.size x _ (r.below hb) hm (Row.new w 3 #[.int .i64 x])).mono (fun _ _ h => ⟨0, h.1, rfl, rfl, h.2.1, (Only.of_below hb _).trans h.2.2⟩)))
  clear hb r hm
  go_enter Try.func20, Try.ntmps20
  go_wp2_with (go_at_call 27; refine X.out.mono ?_; rintro e w1 ⟨z, rfl, hz, hp⟩; subst hz; have HP := Lib.hid hp; clear hp)
  go_ret
  exact HP.out

set_option maxRecDepth 100000 in
set_option maxHeartbeats 1000000 in
theorem reset9_ok (L : MLay) (ms : List Mail) (i : Nat) (m : Mail) (w : World) (r : BoxAt w L ms) (hm : ms[i]? = some m) :
    Calls Try.prog 26 #[.pointer (some ⟨L.g, 0, none⟩), .int .i64 (i : Int)] w (BoxP L (ms.set i mail0) (.tuple #[.int .i64 m.2.length, .int .i64 0]) w) := by
  have hi := lt_of_at hm
  have hb : Below w.heap.size w (w.alloc (.cells #[.int .i64 0] 3)) := below_al _ _
  have hn := r.new_not (Nat.le_refl w.heap.size)
  have hl : (ms.set i mail0).length = ms.length := List.length_set
  have X := Lib.hid (visit_Reset L ms i (.pointer (some ⟨w.heap.size, 0, none⟩)) _ (r.below hb) hi (fun z w' => z = 0 ∧ w'.cell? ⟨w.heap.size, 0, none⟩ = some (.int .i64 m.2.length) ∧ w'.frozen? ⟨w.heap.size, 0, none⟩ = false ∧ ∀ u A, BoxP L (ms.set i mail0) A w (.returned A) (w'.setCell ⟨w.heap.size, 0, none⟩ u))
    ((resetC L ms i m w.heap.size 0 _ (r.below hb) hm (Row.new w 3 #[.int .i64 0]) hn).mono (fun _ w' ⟨he, h1, h2, h3⟩ => ⟨0, he, rfl, h2.cell 0, h2.soft 0, fun u A => ⟨rfl, h1.setVar (by rw [hl]; exact hn) 0 u, by
      rw [hl]
      have h4 : Only (fun b => L.fp ms.length b ∨ b = w.heap.size) w (w'.setCell ⟨w.heap.size, 0, none⟩ u) := ((Only.of_below hb _).trans h3).setCell (p := ⟨w.heap.size, 0, none⟩) (.inl (.inr rfl)) u
      exact h4.mono (fun b hb h => h.elim id (fun e => by omega))⟩⟩)))
  clear hb r hm hn hl
  go_enter Try.func26, Try.ntmps26
  go_wp2_with (go_at_call 27; refine X.out.mono ?_; rintro e w1 ⟨z, rfl, hz, hcell, hsoft, hp⟩; subst hz; have HP := Lib.hid hp; clear hp)
  exact bodyPost_ret (v := .tuple #[.int .i64 m.2.length, .int .i64 0]) (by simp [results, Try.results26, go_sem, *]) rfl (HP.out (.int .i64 m.2.length) _)

set_option maxRecDepth 100000 in
set_option maxHeartbeats 1000000 in
theorem take9_ok (L : MLay) (ms : List Mail) (i : Nat) (m : Mail) (w : World) (r : BoxAt w L ms) (hm : ms[i]? = some m) :
    Calls Try.prog 19 #[.pointer (some ⟨L.g, 0, none⟩), .int .i64 (i : Int)] w (BoxP L (ms.set i (m.1, m.2.tail)) (.tuple #[.int .i64 (tkF m.2), .int .i64 (tkW m.2), .int .i64 (tkE m.2)]) w) := by
  have hi := lt_of_at hm
  have hb : Below w.heap.size w ((w.alloc (.cells #[.int .i64 0] 3)).alloc (.cells #[.int .i64 0] 3)) := below_on (below_al _ _) (below_al _ _)
  have hn := r.new_not (Nat.le_refl w.heap.size)
  have hn2 := r.new_not (show w.heap.size ≤ w.heap.size + 1 by omega)
  have hl : (ms.set i (m.1, m.2.tail)).length = ms.length := List.length_set
  have c2 := Row.new (w.alloc (.cells #[.int .i64 0] 3)) 3 #[.int .i64 0]
  rw [size_al] at c2
  have X := visit_Take L ms i (.pointer (some ⟨w.heap.size, 0, none⟩)) (.pointer (some ⟨w.heap.size + 1, 0, none⟩)) _ (r.below hb) hi (fun z w' => z = tkE m.2 ∧ w'.cell? ⟨w.heap.size, 0, none⟩ = some (.int .i64 (tkF m.2)) ∧ w'.frozen? ⟨w.heap.size, 0, none⟩ = false ∧ w'.cell? ⟨w.heap.size + 1, 0, none⟩ = some (.int .i64 (tkW m.2)) ∧ w'.frozen? ⟨w.heap.size + 1, 0, none⟩ = false ∧ BoxAt w' L (ms.set i (m.1, m.2.tail)) ∧ Only (fun b => L.fp ms.length b ∨ b = w.heap.size ∨ b = w.heap.size + 1) w w')
    ((takeC L ms i m w.heap.size (w.heap.size + 1) _ (r.below hb) hm ((Row.new w 3 #[.int .i64 0]).below (below_al _ _)) c2 hn hn2 (by omega)).mono (fun _ w' ⟨he, h1, h2, h3, h4⟩ => ⟨_, he, rfl, h2.cell 0, h2.soft 0, h3.cell 0, h3.soft 0, h1, (Only.of_below hb _).trans h4⟩))
  obtain ⟨Z, hZ⟩ : ∃ Z : Int, Z = tkE m.2 := ⟨_, rfl⟩
  obtain ⟨F, hF⟩ : ∃ Z : Int, Z = tkF m.2 := ⟨_, rfl⟩
  obtain ⟨V, hV⟩ : ∃ Z : Int, Z = tkW m.2 := ⟨_, rfl⟩
  rw [← hZ, ← hF, ← hV] at X ⊢
  have XX := Lib.hid X
  have HN := Lib.hid hn
  have HN2 := Lib.hid hn2
  clear hb r hm hn hn2 hZ hF hV c2 X
  go_enter Try.func19, Try.ntmps19
  go_wp2_with (go_at_call 27; refine XX.out.mono ?_; rintro e w1 ⟨z, rfl, hz, x1, x2, y1, y2, hp, ho⟩; subst hz; have HP := Lib.hid hp; have HO := Lib.hid ho; clear hp ho)
  go_region
  all_goals go_wp2
  all_goals
    refine bodyPost_ret (v := .tuple #[.int .i64 F, .int .i64 V, .int .i64 z]) (by simp [results, Try.results19, go_sem, *]) rfl ⟨rfl, ?_, ?_⟩
  · exact ((HP.out.setVar (by rw [hl]; exact HN.out) 0 _).setVar (by rw [hl]; exact HN2.out) 0 _).below (Below.refl _ _).drew
  · rw [hl]
    exact ((((HO.out.setCell (p := ⟨w.heap.size, 0, none⟩) (.inl (.inr (.inl rfl))) _).setCell (p := ⟨w.heap.size + 1, 0, none⟩) (.inl (.inr (.inr rfl))) _).drew).mono (fun b hb h => h.elim id (fun e => by omega)))

set_option maxRecDepth 100000 in
set_option maxHeartbeats 1000000 in
theorem ring9_of (L : MLay) (ms ms' : List Mail) (i : Nat) (f x z : Int) (w : World) (r : BoxAt w L ms) (hi : i < ms.length)
    (H : ∀ W, Below w.heap.size w W → Row W w.heap.size 24 [.pointer (some ⟨L.g, 0, none⟩)] → Row W (w.heap.size + 1) 3 [.int .i64 f] → Row W (w.heap.size + 1 + 1) 3 [.int .i64 x] →
      Calls Try.prog 34 #[.pointer (some ⟨L.mb, i * 2, none⟩), .pointer (some ⟨w.heap.size, 0, none⟩), .pointer (some ⟨w.heap.size + 1, 0, none⟩), .pointer (some ⟨w.heap.size + 1 + 1, 0, none⟩)] W (BoxP L ms' (.int .i64 z) W)) :
    Calls Try.prog 18 #[.pointer (some ⟨L.g, 0, none⟩), .int .i64 f, .int .i64 (i : Int), .int .i64 x] w (BoxP L ms' (.int .i64 z) w) := by
  have hb : Below w.heap.size w (((w.alloc (.cells #[.pointer (some ⟨L.g, 0, none⟩)] 24)).alloc (.cells #[.int .i64 f] 3)).alloc (.cells #[.int .i64 x] 3)) := below_on (below_on (below_al _ _) (below_al _ _)) (below_al _ _)
  have c1 := ((Row.new w 24 #[.pointer (some ⟨L.g, 0, none⟩)]).below (below_al _ (.cells #[.int .i64 f] 3))).below (below_al _ (.cells #[.int .i64 x] 3))
  have c2 := (Row.new (w.alloc (.cells #[.pointer (some ⟨L.g, 0, none⟩)] 24)) 3 #[.int .i64 f]).below (below_al _ (.cells #[.int .i64 x] 3))
  have c3 := Row.new ((w.alloc (.cells #[.pointer (some ⟨L.g, 0, none⟩)] 24)).alloc (.cells #[.int .i64 f] 3)) 3 #[.int .i64 x]
  simp only [size_al] at c2 c3
  have X := Lib.hid (visit_Ring L ms i (.pointer (some ⟨w.heap.size, 0, none⟩)) (.pointer (some ⟨w.heap.size + 1, 0, none⟩)) (.pointer (some ⟨w.heap.size + 1 + 1, 0, none⟩)) _ (r.below hb) hi (fun y w' => y = z ∧ BoxP L ms' (.int .i64 z) w (.returned (.int .i64 z)) w')
    ((H _ hb c1 c2 c3).mono (fun _ _ h => ⟨z, h.1, rfl, rfl, h.2.1, (Only.of_below hb _).trans h.2.2⟩)))
  clear hb r H c1 c2 c3
  go_enter Try.func18, Try.ntmps18
  go_wp2_with (go_at_call 27; refine X.out.mono ?_; rintro e w1 ⟨y, rfl, hy, hp⟩; subst hy; have HP := Lib.hid hp; clear hp)
  go_ret
  exact HP.out

#print axioms take9_ok
end Go.Proofs.Ytfboikefjealfaa
