/-
  Layer 6 (bus): the methods Store, Load, Fence, Drain, Swap, Lose, Waits at a core that there is.
  Conditions: those that each theorem states.
-/
import Derived.Test.YtgoogclcpnfmkaaBus5
namespace Go.Proofs.Ytgoogclcpnfmkaa
open Go.ChangeShapes Go.WideShapes Go.ChangeAt Go.RowKit

theorem BusP.since {L : Lay} {N : Nat} {l : List Int} {qs : List (List (Int × Int))} {a : Value} {w w1 w' : World} {e : Ending} (h : BusP L N l qs a w1 e w') (hb : Below w.heap.size w w1) : BusP L N l qs a w e w' := by
  obtain ⟨f, he, hr, hx, ho⟩ := h
  exact ⟨f, he, hr, hx.mono hb.size, (Only.of_below hb _).trans ho⟩

theorem clo_done {L : Lay} {N : Nat} {l : List Int} {qs : List (List (Int × Int))} {f : Nat → Option Nat} {w w1 w2 : World} {c : Nat} (hb : Below w.heap.size w w1) (hf : ∀ b, L.fp qs.length b → b < w.heap.size) (hc : w.heap.size ≤ c) (hc1 : c < w1.heap.size)
    (hr : BusAt w2 (L.up f) N l qs) (he : Ext L f w1) (ho : Only (fun b => L.fp qs.length b ∨ b = c) w1 w2) (u a : Value) : BusP L N l qs a w (.returned a) (w2.setCell ⟨c, 0, none⟩ u) := by
  have hn : ¬ L.fp qs.length c := fun h => by have := hf c h; omega
  refine ⟨f, rfl, hr.setVar (he.not hn hc1) 0 u, he.mono hb.size, ?_⟩
  have h1 : Only (fun b => L.fp qs.length b ∨ b = c) w (w2.setCell ⟨c, 0, none⟩ u) := ((Only.of_below hb _).trans ho).setCell (.inl (.inr rfl)) u
  exact h1.mono (fun b hb h => h.elim id (fun e => by omega))

theorem BusAt.lts {w : World} {L : Lay} {N : Nat} {l : List Int} {qs : List (List (Int × Int))} (r : BusAt w L N l qs) : ∀ b, L.fp qs.length b → b < w.heap.size := fun _ h => r.fp_lt h

/-- A variable of a method that lies behind what was there. -/
theorem BusAt.new_not {w : World} {L : Lay} {N : Nat} {l : List Int} {qs : List (List (Int × Int))} (r : BusAt w L N l qs) {c : Nat} (h : w.heap.size ≤ c) : ¬ L.fp qs.length c := fun hb => by have := r.fp_lt hb; omega

theorem size_al (w : World) (o : Obj) : (w.alloc o).heap.size = w.heap.size + 1 := by simp

set_option maxRecDepth 100000 in
set_option maxHeartbeats 1000000 in
theorem store6_ok (L : Lay) (N : Nat) (l : List Int) (qs : List (List (Int × Int))) (i : Nat) (q : List (Int × Int)) (a x : Int) (w : World) (r : BusAt w L N l qs) (hq : qs[i]? = some q) :
    Calls Try.prog 19 #[ptr L.g, .int .i64 (i : Int), .int .i64 a, .int .i64 x] w (BusP L N (stoL N l q a x) (qs.set i (stoQ N l q a x)) (.int .i64 (fillE l.length a 1 x)) w) := by
  have hi := lt_of_at hq
  have hb : Below w.heap.size w (((w.alloc (.cells #[ptr L.g] 25)).alloc (.cells #[.int .i64 a] 3)).alloc (.cells #[.int .i64 x] 3)) := (below_on (below_on (below_al _ _) (below_al _ _)) (below_al _ _))
  have c1 := (((Row.new w 25 #[ptr L.g]).below (below_al _ (.cells #[.int .i64 a] 3))).below (below_al _ (.cells #[.int .i64 x] 3)))
  have c2 := ((Row.new (w.alloc (.cells #[ptr L.g] 25)) 3 #[.int .i64 a]).below (below_al _ (.cells #[.int .i64 x] 3)))
  have c3 := (Row.new ((w.alloc (.cells #[ptr L.g] 25)).alloc (.cells #[.int .i64 a] 3)) 3 #[.int .i64 x])
  simp only [size_al] at c2 c3
  have X := exec_Store L N l qs i (ptr (w.heap.size)) (ptr (w.heap.size + 1)) (ptr (w.heap.size + 1 + 1)) _ (r.below hb) hi
    (fun z w' => z = fillE l.length a 1 x ∧ BusP L N (stoL N l q a x) (qs.set i (stoQ N l q a x)) (.int .i64 z) w (.returned (.int .i64 z)) w')
    ((storeC_any L N l qs i q a x _ _ _ _ (r.below hb) hq c1 c2 c3 (r.new_not (by omega)) (r.new_not (by omega))).mono (fun e w' h => by
      have h' := BusP.since h hb
      obtain ⟨f, he, _⟩ := h
      exact ⟨_, he, rfl, by rw [← he]; exact h'⟩))
  have XX := Lib.hid X
  clear X c1 c2 c3 hb r
  unfold ptr at XX ⊢
  go_enter Try.func19, Try.ntmps19
  go_wp2_with (go_at_call 49; refine XX.out.mono ?_; rintro e w' ⟨z, rfl, hz, hp⟩; subst hz; have HP := Lib.hid hp; clear hp)
  go_ret
  exact HP.out

set_option maxRecDepth 100000 in
set_option maxHeartbeats 1000000 in
theorem fence6_ok (L : Lay) (N : Nat) (l : List Int) (qs : List (List (Int × Int))) (i : Nat) (q : List (Int × Int)) (w : World) (r : BusAt w L N l qs) (hq : qs[i]? = some q) :
    Calls Try.prog 21 #[ptr L.g, .int .i64 (i : Int)] w (BusP L N (drs l q) (qs.set i ([])) (.tuple #[.int .i64 q.length, .int .i64 (0)]) w) := by
  have hi := lt_of_at hq
  have hb : Below w.heap.size w ((w.alloc (.cells #[ptr L.g] 25)).alloc (.cells #[.int .i64 0] 3)) := (below_on (below_al _ _) (below_al _ _))
  have c1 := ((Row.new w 25 #[ptr L.g]).below (below_al _ (.cells #[.int .i64 0] 3)))
  have c2 := (Row.new (w.alloc (.cells #[ptr L.g] 25)) 3 #[.int .i64 0])
  simp only [size_al] at c2
  have X := exec_Fence L N l qs i (ptr (w.heap.size)) (ptr (w.heap.size + 1)) _ (r.below hb) hi
    (fun z w' => z = 0 ∧ w'.cell? ⟨w.heap.size + 1, 0, none⟩ = some (.int .i64 q.length) ∧ w'.frozen? ⟨w.heap.size + 1, 0, none⟩ = false ∧ ∀ u A, BusP L N (drs l q) (qs.set i ([])) A w (.returned A) (w'.setCell ⟨w.heap.size + 1, 0, none⟩ u))
    ((fenceC_any L N l qs i q 0 _ _ _ (r.below hb) hq c1 c2 (r.new_not (by omega))).mono (fun e w' ⟨f, he, h1, h2, h3, h4⟩ => ⟨_, he, rfl, h2.cell 0, h2.soft 0, fun u A => clo_done hb (by rw [List.length_set]; exact r.lts) (by omega) (by simp only [size_al]; omega) h1 h3 h4 u A⟩))
  have XX := Lib.hid X
  clear X c1 c2 hb r
  unfold ptr at XX ⊢
  go_enter Try.func21, Try.ntmps21
  go_wp2_with (go_at_call 49; refine XX.out.mono ?_; rintro e w' ⟨z, rfl, hz, hcell, hsoft, hp⟩; subst hz; have HP := Lib.hid hp; clear hp)
  exact bodyPost_ret (v := .tuple #[.int .i64 q.length, .int .i64 0]) (by simp [results, Try.results21, go_sem, *]) rfl (HP.out (.int .i64 q.length) _)

set_option maxRecDepth 100000 in
set_option maxHeartbeats 1000000 in
theorem drain6_ok (L : Lay) (N : Nat) (l : List Int) (qs : List (List (Int × Int))) (i : Nat) (q : List (Int × Int)) (w : World) (r : BusAt w L N l qs) (hq : qs[i]? = some q) :
    Calls Try.prog 41 #[ptr L.g, .int .i64 (i : Int)] w (BusP L N (drs l (q.take 1)) (qs.set i (q.drop 1)) (.tuple #[.bool (anyB q), .int .i64 (0)]) w) := by
  have hi := lt_of_at hq
  have hb : Below w.heap.size w ((w.alloc (.cells #[ptr L.g] 25)).alloc (.cells #[.bool false] 4)) := (below_on (below_al _ _) (below_al _ _))
  have c1 := ((Row.new w 25 #[ptr L.g]).below (below_al _ (.cells #[.bool false] 4)))
  have c2 := (Row.new (w.alloc (.cells #[ptr L.g] 25)) 4 #[.bool false])
  simp only [size_al] at c2
  have X := exec_Drain L N l qs i (ptr (w.heap.size)) (ptr (w.heap.size + 1)) _ (r.below hb) hi
    (fun z w' => z = 0 ∧ w'.cell? ⟨w.heap.size + 1, 0, none⟩ = some (.bool (anyB q)) ∧ w'.frozen? ⟨w.heap.size + 1, 0, none⟩ = false ∧ ∀ u A, BusP L N (drs l (q.take 1)) (qs.set i (q.drop 1)) A w (.returned A) (w'.setCell ⟨w.heap.size + 1, 0, none⟩ u))
    ((drainC_any L N l qs i q false _ _ _ (r.below hb) hq c1 c2 (r.new_not (by omega))).mono (fun e w' ⟨f, he, h1, h2, h3, h4⟩ => ⟨_, he, rfl, h2.cell 0, h2.soft 0, fun u A => clo_done hb (by rw [List.length_set]; exact r.lts) (by omega) (by simp only [size_al]; omega) h1 h3 h4 u A⟩))
  have XX := Lib.hid X
  clear X c1 c2 hb r
  unfold ptr at XX ⊢
  go_enter Try.func41, Try.ntmps41
  go_wp2_with (go_at_call 49; refine XX.out.mono ?_; rintro e w' ⟨z, rfl, hz, hcell, hsoft, hp⟩; subst hz; have HP := Lib.hid hp; clear hp)
  exact bodyPost_ret (v := .tuple #[.bool (anyB q), .int .i64 0]) (by simp [results, Try.results41, go_sem, *]) rfl (HP.out (.bool (anyB q)) _)

set_option maxRecDepth 100000 in
set_option maxHeartbeats 1000000 in
theorem swap6_ok (L : Lay) (N : Nat) (l : List Int) (qs : List (List (Int × Int))) (i : Nat) (q : List (Int × Int)) (a x : Int) (w : World) (r : BusAt w L N l qs) (hq : qs[i]? = some q) :
    Calls Try.prog 42 #[ptr L.g, .int .i64 (i : Int), .int .i64 a, .int .i64 x] w (BusP L N (swL l q a x) (qs.set i (swQ l q a x)) (.tuple #[.int .i64 (swV l q a x), .int .i64 (fillE l.length a 1 x)]) w) := by
  have hi := lt_of_at hq
  have hb : Below w.heap.size w ((((w.alloc (.cells #[ptr L.g] 25)).alloc (.cells #[.int .i64 a] 3)).alloc (.cells #[.int .i64 x] 3)).alloc (.cells #[.int .i64 0] 3)) := (below_on (below_on (below_on (below_al _ _) (below_al _ _)) (below_al _ _)) (below_al _ _))
  have c1 := ((((Row.new w 25 #[ptr L.g]).below (below_al _ (.cells #[.int .i64 a] 3))).below (below_al _ (.cells #[.int .i64 x] 3))).below (below_al _ (.cells #[.int .i64 0] 3)))
  have c2 := (((Row.new (w.alloc (.cells #[ptr L.g] 25)) 3 #[.int .i64 a]).below (below_al _ (.cells #[.int .i64 x] 3))).below (below_al _ (.cells #[.int .i64 0] 3)))
  have c3 := ((Row.new ((w.alloc (.cells #[ptr L.g] 25)).alloc (.cells #[.int .i64 a] 3)) 3 #[.int .i64 x]).below (below_al _ (.cells #[.int .i64 0] 3)))
  have c4 := (Row.new (((w.alloc (.cells #[ptr L.g] 25)).alloc (.cells #[.int .i64 a] 3)).alloc (.cells #[.int .i64 x] 3)) 3 #[.int .i64 0])
  simp only [size_al] at c2 c3 c4
  have X := exec_Swap L N l qs i (ptr (w.heap.size)) (ptr (w.heap.size + 1)) (ptr (w.heap.size + 1 + 1)) (ptr (w.heap.size + 1 + 1 + 1)) _ (r.below hb) hi
    (fun z w' => z = fillE l.length a 1 x ∧ w'.cell? ⟨w.heap.size + 1 + 1 + 1, 0, none⟩ = some (.int .i64 (swV l q a x)) ∧ w'.frozen? ⟨w.heap.size + 1 + 1 + 1, 0, none⟩ = false ∧ ∀ u A, BusP L N (swL l q a x) (qs.set i (swQ l q a x)) A w (.returned A) (w'.setCell ⟨w.heap.size + 1 + 1 + 1, 0, none⟩ u))
    ((swapC_any L N l qs i q a x _ _ _ _ _ (r.below hb) hq c1 c2 c3 c4 (r.new_not (by omega)) (r.new_not (by omega)) (r.new_not (by omega)) (r.new_not (by omega)) (by omega) (by omega)).mono (fun e w' ⟨f, he, h1, h2, h3, h4⟩ => ⟨_, he, rfl, h2.cell 0, h2.soft 0, fun u A => clo_done hb (by rw [List.length_set]; exact r.lts) (by omega) (by simp only [size_al]; omega) h1 h3 h4 u A⟩))
  obtain ⟨Z, hZ⟩ : ∃ Z : Int, Z = fillE l.length a 1 x := ⟨_, rfl⟩
  rw [← hZ] at X
  rw [← hZ]
  clear hZ
  have XX := Lib.hid X
  clear X c1 c2 c3 c4 hb r
  unfold ptr at XX ⊢
  go_enter Try.func42, Try.ntmps42
  go_wp2_with (go_at_call 49; refine XX.out.mono ?_; rintro e w' ⟨z, rfl, hz, hcell, hsoft, hp⟩; subst hz; have HP := Lib.hid hp; clear hp)
  exact bodyPost_ret (v := .tuple #[.int .i64 (swV l q a x), .int .i64 z]) (by simp [results, Try.results42, go_sem, *]) rfl (HP.out (.int .i64 (swV l q a x)) _)

set_option maxRecDepth 100000 in
set_option maxHeartbeats 1000000 in
theorem lose6_ok (L : Lay) (N : Nat) (l : List Int) (qs : List (List (Int × Int))) (i : Nat) (q : List (Int × Int)) (w : World) (r : BusAt w L N l qs) (hq : qs[i]? = some q) :
    Calls Try.prog 43 #[ptr L.g, .int .i64 (i : Int)] w (BusP L N (l) (qs.set i ([])) (.tuple #[.int .i64 q.length, .int .i64 (0)]) w) := by
  have hi := lt_of_at hq
  have hb : Below w.heap.size w (w.alloc (.cells #[.int .i64 0] 3)) := (below_al _ _)
  have c1 := (Row.new w 3 #[.int .i64 0])
  have X := exec_Lose L N l qs i (ptr (w.heap.size)) _ (r.below hb) hi
    (fun z w' => z = 0 ∧ w'.cell? ⟨w.heap.size, 0, none⟩ = some (.int .i64 q.length) ∧ w'.frozen? ⟨w.heap.size, 0, none⟩ = false ∧ ∀ u A, BusP L N (l) (qs.set i ([])) A w (.returned A) (w'.setCell ⟨w.heap.size, 0, none⟩ u))
    ((loseC_any L N l qs i q 0 _ _ (r.below hb) hq c1 (r.new_not (by omega))).mono (fun e w' ⟨f, he, h1, h2, h3, h4⟩ => ⟨_, he, rfl, h2.cell 0, h2.soft 0, fun u A => clo_done hb (by rw [List.length_set]; exact r.lts) (by omega) (by simp only [size_al]; omega) h1 h3 h4 u A⟩))
  have XX := Lib.hid X
  clear X c1 hb r
  unfold ptr at XX ⊢
  go_enter Try.func43, Try.ntmps43
  go_wp2_with (go_at_call 49; refine XX.out.mono ?_; rintro e w' ⟨z, rfl, hz, hcell, hsoft, hp⟩; subst hz; have HP := Lib.hid hp; clear hp)
  exact bodyPost_ret (v := .tuple #[.int .i64 q.length, .int .i64 0]) (by simp [results, Try.results43, go_sem, *]) rfl (HP.out (.int .i64 q.length) _)

#print axioms store6_ok
#print axioms fence6_ok
#print axioms drain6_ok
#print axioms swap6_ok
#print axioms lose6_ok
end Go.Proofs.Ytgoogclcpnfmkaa
