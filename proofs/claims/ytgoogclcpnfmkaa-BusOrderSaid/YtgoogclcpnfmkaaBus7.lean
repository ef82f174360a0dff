/-
  Layer 6 (bus): Load and Waits at a core that there is; all methods at a core that there is not, and for a nil bus; Cores, Ram.
  Conditions: those that each theorem states.
-/
import Derived.Test.YtgoogclcpnfmkaaBus6
namespace Go.Proofs.Ytgoogclcpnfmkaa
open Go.ChangeShapes Go.WideShapes Go.ChangeAt Go.RowKit

set_option maxRecDepth 100000 in
set_option maxHeartbeats 1000000 in
theorem load6_ok (L : Lay) (N : Nat) (l : List Int) (qs : List (List (Int × Int))) (i : Nat) (q : List (Int × Int)) (a : Int) (w : World) (r : BusAt w L N l qs) (hq : qs[i]? = some q) :
    Calls Try.prog 20 #[ptr L.g, .int .i64 (i : Int), .int .i64 a] w fun e w' => e = .returned (.tuple #[.int .i64 (ldV l q a), .int .i64 (runE l.length a 1)]) ∧ Below w.heap.size w w' := by
  have hi := lt_of_at hq
  have hb : Below w.heap.size w ((((w.alloc (.cells #[ptr L.g] 25)).alloc (.cells #[.int .i64 a] 3)).alloc (.cells #[.int .i64 0] 3)).alloc (.cells #[.int .i64 0] 26)) := (below_on (below_on (below_on (below_al _ _) (below_al _ _)) (below_al _ _)) (below_al _ _))
  have c1 := ((((Row.new w 25 #[ptr L.g]).below (below_al _ (.cells #[.int .i64 a] 3))).below (below_al _ (.cells #[.int .i64 0] 3))).below (below_al _ (.cells #[.int .i64 0] 26)))
  have c2 := (((Row.new (w.alloc (.cells #[ptr L.g] 25)) 3 #[.int .i64 a]).below (below_al _ (.cells #[.int .i64 0] 3))).below (below_al _ (.cells #[.int .i64 0] 26)))
  have c3 := ((Row.new ((w.alloc (.cells #[ptr L.g] 25)).alloc (.cells #[.int .i64 a] 3)) 3 #[.int .i64 0]).below (below_al _ (.cells #[.int .i64 0] 26)))
  have c4 := (Row.new (((w.alloc (.cells #[ptr L.g] 25)).alloc (.cells #[.int .i64 a] 3)).alloc (.cells #[.int .i64 0] 3)) 26 #[.int .i64 0])
  simp only [size_al] at c2 c3 c4
  have X := exec_Load L N l qs i (ptr (w.heap.size + 1)) (ptr (w.heap.size + 1 + 1)) (ptr (w.heap.size)) (ptr (w.heap.size + 1 + 1 + 1)) _ (r.below hb) hi
    (fun z w' => z = runE l.length a 1 ∧ w'.cell? ⟨w.heap.size + 1 + 1, 0, none⟩ = some (.int .i64 (ldV l q a)) ∧ w'.frozen? ⟨w.heap.size + 1 + 1, 0, none⟩ = false ∧ (∃ y, w'.cell? ⟨w.heap.size + 1 + 1 + 1, 0, none⟩ = some (.int .i64 y)) ∧ w'.frozen? ⟨w.heap.size + 1 + 1 + 1, 0, none⟩ = false ∧ Below w.heap.size w w')
    ((loadC_any L N l qs q i a 0 0 _ _ _ _ _ (r.below hb) hq c2 c3 c1 c4).mono (fun e w' ⟨he, h1, ⟨y, h2⟩, h3⟩ => ⟨_, he, rfl, h1.cell 0, h1.soft 0, ⟨y, h2.cell 0⟩, h2.soft 0, Only.below hb h3 (by simp only [size_al]; omega) (fun g hg h => by omega)⟩))
  have XX := Lib.hid X
  clear X c1 c2 c3 c4 hb r
  obtain ⟨v, hv⟩ : ∃ v, ldV l q a = v := ⟨_, rfl⟩
  obtain ⟨y0, hy0⟩ : ∃ v, runE l.length a 1 = v := ⟨_, rfl⟩
  rw [hv, hy0] at XX
  rw [hv, hy0]
  clear hv hy0
  unfold ptr at XX ⊢
  go_enter Try.func20, Try.ntmps20
  go_wp2_with (go_at_call 49; refine XX.out.mono ?_; rintro e w1 ⟨z, rfl, hz, hc1, hs1, ⟨y, hc2⟩, hs2, hb1⟩; subst hz; have HB := Lib.hid hb1; clear hb1)
  go_region
  all_goals go_wp2
  all_goals refine bodyPost_ret (v := .tuple #[.int .i64 v, .int .i64 z]) (by simp [results, Try.results20, go_sem, *]) rfl ⟨rfl, ?_⟩
  all_goals first
    | exact ((below_dn (HB.out.setCell (p := ⟨w.heap.size + 1 + 1 + 1, 0, none⟩) (by show w.heap.size ≤ w.heap.size + 1 + 1 + 1; omega) _) _).setCell (p := ⟨w.heap.size + 1 + 1, 0, none⟩) (by show w.heap.size ≤ w.heap.size + 1 + 1; omega) _).setCell (p := ⟨w.heap.size + 1 + 1 + 1, 0, none⟩) (by show w.heap.size ≤ w.heap.size + 1 + 1 + 1; omega) _
    | exact ((below_dn (HB.out.setCell (p := ⟨w.heap.size + 1 + 1 + 1, 0, none⟩) (by show w.heap.size ≤ w.heap.size + 1 + 1 + 1; omega) _) _).setCell (p := ⟨w.heap.size + 1 + 1 + 1, 0, none⟩) (by show w.heap.size ≤ w.heap.size + 1 + 1 + 1; omega) _).setCell (p := ⟨w.heap.size + 1 + 1, 0, none⟩) (by show w.heap.size ≤ w.heap.size + 1 + 1; omega) _

set_option maxRecDepth 100000 in
set_option maxHeartbeats 1000000 in
theorem waits6_ok (L : Lay) (N : Nat) (l : List Int) (qs : List (List (Int × Int))) (i : Nat) (q : List (Int × Int)) (w : World) (r : BusAt w L N l qs) (hq : qs[i]? = some q) :
    Calls Try.prog 24 #[ptr L.g, .int .i64 (i : Int)] w (BAllP q w) := by
  have hi := lt_of_at hq
  have hb : Below w.heap.size w (w.alloc (.cells #[.slice none 0 0] 55)) := (below_al _ _)
  have c1 := (Row.new w 55 #[.slice none 0 0])
  have X := exec_Waits L N l qs i (ptr (w.heap.size)) _ (r.below hb) hi
    (fun _ w' => ∃ b, w'.cell? ⟨w.heap.size, 0, none⟩ = some (.slice (some ⟨b, 0, none⟩) q.length q.length) ∧ w'.frozen? ⟨w.heap.size, 0, none⟩ = false ∧ Row w' b 112 (cvs q) ∧ w.heap.size < b ∧ Below w.heap.size w w')
    ((waitC_any (L.gf i) (L.hf i) N q _ _ ((r.below hb).buf i q hq) c1).mono (fun e w' ⟨b, he, h1, h2, h3, h4⟩ => ⟨_, he, b, h1.cell 0, h1.soft 0, h2, by simp only [size_al] at h3; omega, Only.below hb h4 (by simp only [size_al]; omega) (fun g hg h => by omega)⟩))
  have XX := Lib.hid X
  clear X c1 hb r
  unfold ptr at XX ⊢
  go_enter Try.func24, Try.ntmps24
  go_wp2_with (go_at_call 49; refine XX.out.mono ?_; rintro e w1 ⟨z, rfl, b, hc1, hs1, hr1, hlt, hb1⟩; have HB := Lib.hid hb1; have HR := Lib.hid hr1; clear hb1 hr1)
  exact bodyPost_ret (v := .slice (some ⟨b, 0, none⟩) q.length q.length) (by simp [results, Try.results24, go_sem, *]) rfl ⟨b, rfl, Lib.hid (HR.out.far (p := ⟨w.heap.size, 0, none⟩) (by show b ≠ w.heap.size; omega) _), by omega, HB.out.setCell (p := ⟨w.heap.size, 0, none⟩) (Nat.le_refl _) _⟩

set_option maxRecDepth 100000 in
set_option maxHeartbeats 1000000 in
theorem store6_no (L : Lay) (N : Nat) (l : List Int) (qs : List (List (Int × Int))) (c : Int) (a x : Int) (w : World) (r : BusAt w L N l qs) (hc : c < 0 ∨ (qs.length : Int) ≤ c) :
    Calls Try.prog 19 #[ptr L.g, .int .i64 c, .int .i64 a, .int .i64 x] w fun e w' => e = .returned (.int .i64 3) ∧ Below w.heap.size w w' := by
  have hb : Below w.heap.size w (((w.alloc (.cells #[ptr L.g] 25)).alloc (.cells #[.int .i64 a] 3)).alloc (.cells #[.int .i64 x] 3)) := (below_on (below_on (below_al _ _) (below_al _ _)) (below_al _ _))
  have X := Lib.hid (fun F => exec_no L N l qs c F _ (r.below hb) hc)
  have HB := Lib.hid hb
  clear hb r hc
  unfold ptr at X HB ⊢
  go_enter Try.func19, Try.ntmps19
  go_wp2_with (go_at_call 49; refine (X.out _).mono ?_; rintro e w1 ⟨rfl, rfl⟩)
  go_ret
  exact ⟨rfl, HB.out⟩

set_option maxRecDepth 100000 in
set_option maxHeartbeats 1000000 in
theorem load6_no (L : Lay) (N : Nat) (l : List Int) (qs : List (List (Int × Int))) (c : Int) (a : Int) (w : World) (r : BusAt w L N l qs) (hc : c < 0 ∨ (qs.length : Int) ≤ c) :
    Calls Try.prog 20 #[ptr L.g, .int .i64 c, .int .i64 a] w fun e w' => e = .returned (.tuple #[.int .i64 0, .int .i64 3]) ∧ Below w.heap.size w w' := by
  have hb : Below w.heap.size w ((((w.alloc (.cells #[ptr L.g] 25)).alloc (.cells #[.int .i64 a] 3)).alloc (.cells #[.int .i64 0] 3)).alloc (.cells #[.int .i64 0] 26)) := (below_on (below_on (below_on (below_al _ _) (below_al _ _)) (below_al _ _)) (below_al _ _))
  have X := Lib.hid (fun F => exec_no L N l qs c F _ (r.below hb) hc)
  clear hb r hc
  unfold ptr at X ⊢
  go_enter Try.func20, Try.ntmps20
  go_wp2_with (go_at_call 49; refine (X.out _).mono ?_; rintro e w1 ⟨rfl, rfl⟩)
  go_region
  all_goals go_wp2
  all_goals exact bodyPost_ret (v := .tuple #[.int .i64 0, .int .i64 3]) (by simp [results, Try.results20, go_sem, *]) rfl ⟨rfl, (below_on (below_on (below_on (below_al _ _) (below_al _ _)) (below_al _ _)) (below_al _ _)).drew⟩

set_option maxRecDepth 100000 in
set_option maxHeartbeats 1000000 in
theorem fence6_no (L : Lay) (N : Nat) (l : List Int) (qs : List (List (Int × Int))) (c : Int) (w : World) (r : BusAt w L N l qs) (hc : c < 0 ∨ (qs.length : Int) ≤ c) :
    Calls Try.prog 21 #[ptr L.g, .int .i64 c] w fun e w' => e = .returned (.tuple #[.int .i64 0, .int .i64 3]) ∧ Below w.heap.size w w' := by
  have hb : Below w.heap.size w ((w.alloc (.cells #[ptr L.g] 25)).alloc (.cells #[.int .i64 0] 3)) := (below_on (below_al _ _) (below_al _ _))
  have X := Lib.hid (fun F => exec_no L N l qs c F _ (r.below hb) hc)
  have HB := Lib.hid hb
  clear hb r hc
  unfold ptr at X HB ⊢
  go_enter Try.func21, Try.ntmps21
  go_wp2_with (go_at_call 49; refine (X.out _).mono ?_; rintro e w1 ⟨rfl, rfl⟩)
  exact bodyPost_ret (v := .tuple #[.int .i64 0, .int .i64 3]) (by simp [results, Try.results21, go_sem, *]) rfl ⟨rfl, HB.out⟩

set_option maxRecDepth 100000 in
set_option maxHeartbeats 1000000 in
theorem drain6_no (L : Lay) (N : Nat) (l : List Int) (qs : List (List (Int × Int))) (c : Int) (w : World) (r : BusAt w L N l qs) (hc : c < 0 ∨ (qs.length : Int) ≤ c) :
    Calls Try.prog 41 #[ptr L.g, .int .i64 c] w fun e w' => e = .returned (.tuple #[.bool false, .int .i64 3]) ∧ Below w.heap.size w w' := by
  have hb : Below w.heap.size w ((w.alloc (.cells #[ptr L.g] 25)).alloc (.cells #[.bool false] 4)) := (below_on (below_al _ _) (below_al _ _))
  have X := Lib.hid (fun F => exec_no L N l qs c F _ (r.below hb) hc)
  have HB := Lib.hid hb
  clear hb r hc
  unfold ptr at X HB ⊢
  go_enter Try.func41, Try.ntmps41
  go_wp2_with (go_at_call 49; refine (X.out _).mono ?_; rintro e w1 ⟨rfl, rfl⟩)
  exact bodyPost_ret (v := .tuple #[.bool false, .int .i64 3]) (by simp [results, Try.results41, go_sem, *]) rfl ⟨rfl, HB.out⟩

set_option maxRecDepth 100000 in
set_option maxHeartbeats 1000000 in
theorem swap6_no (L : Lay) (N : Nat) (l : List Int) (qs : List (List (Int × Int))) (c : Int) (a x : Int) (w : World) (r : BusAt w L N l qs) (hc : c < 0 ∨ (qs.length : Int) ≤ c) :
    Calls Try.prog 42 #[ptr L.g, .int .i64 c, .int .i64 a, .int .i64 x] w fun e w' => e = .returned (.tuple #[.int .i64 0, .int .i64 3]) ∧ Below w.heap.size w w' := by
  have hb : Below w.heap.size w ((((w.alloc (.cells #[ptr L.g] 25)).alloc (.cells #[.int .i64 a] 3)).alloc (.cells #[.int .i64 x] 3)).alloc (.cells #[.int .i64 0] 3)) := (below_on (below_on (below_on (below_al _ _) (below_al _ _)) (below_al _ _)) (below_al _ _))
  have X := Lib.hid (fun F => exec_no L N l qs c F _ (r.below hb) hc)
  have HB := Lib.hid hb
  clear hb r hc
  unfold ptr at X HB ⊢
  go_enter Try.func42, Try.ntmps42
  go_wp2_with (go_at_call 49; refine (X.out _).mono ?_; rintro e w1 ⟨rfl, rfl⟩)
  exact bodyPost_ret (v := .tuple #[.int .i64 0, .int .i64 3]) (by simp [results, Try.results42, go_sem, *]) rfl ⟨rfl, HB.out⟩

set_option maxRecDepth 100000 in
set_option maxHeartbeats 1000000 in
theorem lose6_no (L : Lay) (N : Nat) (l : List Int) (qs : List (List (Int × Int))) (c : Int) (w : World) (r : BusAt w L N l qs) (hc : c < 0 ∨ (qs.length : Int) ≤ c) :
    Calls Try.prog 43 #[ptr L.g, .int .i64 c] w fun e w' => e = .returned (.tuple #[.int .i64 0, .int .i64 3]) ∧ Below w.heap.size w w' := by
  have hb : Below w.heap.size w (w.alloc (.cells #[.int .i64 0] 3)) := (below_al _ _)
  have X := Lib.hid (fun F => exec_no L N l qs c F _ (r.below hb) hc)
  have HB := Lib.hid hb
  clear hb r hc
  unfold ptr at X HB ⊢
  go_enter Try.func43, Try.ntmps43
  go_wp2_with (go_at_call 49; refine (X.out _).mono ?_; rintro e w1 ⟨rfl, rfl⟩)
  exact bodyPost_ret (v := .tuple #[.int .i64 0, .int .i64 3]) (by simp [results, Try.results43, go_sem, *]) rfl ⟨rfl, HB.out⟩

set_option maxRecDepth 100000 in
set_option maxHeartbeats 1000000 in
theorem waits6_no (L : Lay) (N : Nat) (l : List Int) (qs : List (List (Int × Int))) (c : Int) (w : World) (r : BusAt w L N l qs) (hc : c < 0 ∨ (qs.length : Int) ≤ c) :
    Calls Try.prog 24 #[ptr L.g, .int .i64 c] w fun e w' => e = .returned (.slice none 0 0) ∧ Below w.heap.size w w' := by
  have hb : Below w.heap.size w (w.alloc (.cells #[.slice none 0 0] 55)) := (below_al _ _)
  have X := Lib.hid (fun F => exec_no L N l qs c F _ (r.below hb) hc)
  have HB := Lib.hid hb
  clear hb r hc
  unfold ptr at X HB ⊢
  go_enter Try.func24, Try.ntmps24
  go_wp2_with (go_at_call 49; refine (X.out _).mono ?_; rintro e w1 ⟨rfl, rfl⟩)
  exact bodyPost_ret (v := .slice none 0 0) (by simp [results, Try.results24, go_sem, *]) rfl ⟨rfl, HB.out⟩

set_option maxRecDepth 100000 in
set_option maxHeartbeats 1000000 in
theorem store6_nil (c : Int) (a x : Int) (w : World) :
    Calls Try.prog 19 #[.pointer none, .int .i64 c, .int .i64 a, .int .i64 x] w fun e w' => e = .returned (.int .i64 1) ∧ Below w.heap.size w w' := by
  have hb : Below w.heap.size w (((w.alloc (.cells #[.pointer none] 25)).alloc (.cells #[.int .i64 a] 3)).alloc (.cells #[.int .i64 x] 3)) := (below_on (below_on (below_al _ _) (below_al _ _)) (below_al _ _))
  have X := Lib.hid (fun F => exec_nil c F (((w.alloc (.cells #[.pointer none] 25)).alloc (.cells #[.int .i64 a] 3)).alloc (.cells #[.int .i64 x] 3)))
  have HB := Lib.hid hb
  clear hb
  skip
  go_enter Try.func19, Try.ntmps19
  go_wp2_with (go_at_call 49; refine (X.out _).mono ?_; rintro e w1 ⟨rfl, rfl⟩)
  go_ret
  exact ⟨rfl, HB.out⟩

set_option maxRecDepth 100000 in
set_option maxHeartbeats 1000000 in
theorem load6_nil (c : Int) (a : Int) (w : World) :
    Calls Try.prog 20 #[.pointer none, .int .i64 c, .int .i64 a] w fun e w' => e = .returned (.tuple #[.int .i64 0, .int .i64 1]) ∧ Below w.heap.size w w' := by
  have hb : Below w.heap.size w ((((w.alloc (.cells #[.pointer none] 25)).alloc (.cells #[.int .i64 a] 3)).alloc (.cells #[.int .i64 0] 3)).alloc (.cells #[.int .i64 0] 26)) := (below_on (below_on (below_on (below_al _ _) (below_al _ _)) (below_al _ _)) (below_al _ _))
  have X := Lib.hid (fun F => exec_nil c F ((((w.alloc (.cells #[.pointer none] 25)).alloc (.cells #[.int .i64 a] 3)).alloc (.cells #[.int .i64 0] 3)).alloc (.cells #[.int .i64 0] 26)))
  clear hb
  skip
  go_enter Try.func20, Try.ntmps20
  go_wp2_with (go_at_call 49; refine (X.out _).mono ?_; rintro e w1 ⟨rfl, rfl⟩)
  go_region
  all_goals go_wp2
  all_goals exact bodyPost_ret (v := .tuple #[.int .i64 0, .int .i64 1]) (by simp [results, Try.results20, go_sem, *]) rfl ⟨rfl, (below_on (below_on (below_on (below_al _ _) (below_al _ _)) (below_al _ _)) (below_al _ _)).drew⟩

set_option maxRecDepth 100000 in
set_option maxHeartbeats 1000000 in
theorem fence6_nil (c : Int) (w : World) :
    Calls Try.prog 21 #[.pointer none, .int .i64 c] w fun e w' => e = .returned (.tuple #[.int .i64 0, .int .i64 1]) ∧ Below w.heap.size w w' := by
  have hb : Below w.heap.size w ((w.alloc (.cells #[.pointer none] 25)).alloc (.cells #[.int .i64 0] 3)) := (below_on (below_al _ _) (below_al _ _))
  have X := Lib.hid (fun F => exec_nil c F ((w.alloc (.cells #[.pointer none] 25)).alloc (.cells #[.int .i64 0] 3)))
  have HB := Lib.hid hb
  clear hb
  skip
  go_enter Try.func21, Try.ntmps21
  go_wp2_with (go_at_call 49; refine (X.out _).mono ?_; rintro e w1 ⟨rfl, rfl⟩)
  exact bodyPost_ret (v := .tuple #[.int .i64 0, .int .i64 1]) (by simp [results, Try.results21, go_sem, *]) rfl ⟨rfl, HB.out⟩

set_option maxRecDepth 100000 in
set_option maxHeartbeats 1000000 in
theorem drain6_nil (c : Int) (w : World) :
    Calls Try.prog 41 #[.pointer none, .int .i64 c] w fun e w' => e = .returned (.tuple #[.bool false, .int .i64 1]) ∧ Below w.heap.size w w' := by
  have hb : Below w.heap.size w ((w.alloc (.cells #[.pointer none] 25)).alloc (.cells #[.bool false] 4)) := (below_on (below_al _ _) (below_al _ _))
  have X := Lib.hid (fun F => exec_nil c F ((w.alloc (.cells #[.pointer none] 25)).alloc (.cells #[.bool false] 4)))
  have HB := Lib.hid hb
  clear hb
  skip
  go_enter Try.func41, Try.ntmps41
  go_wp2_with (go_at_call 49; refine (X.out _).mono ?_; rintro e w1 ⟨rfl, rfl⟩)
  exact bodyPost_ret (v := .tuple #[.bool false, .int .i64 1]) (by simp [results, Try.results41, go_sem, *]) rfl ⟨rfl, HB.out⟩

set_option maxRecDepth 100000 in
set_option maxHeartbeats 1000000 in
theorem swap6_nil (c : Int) (a x : Int) (w : World) :
    Calls Try.prog 42 #[.pointer none, .int .i64 c, .int .i64 a, .int .i64 x] w fun e w' => e = .returned (.tuple #[.int .i64 0, .int .i64 1]) ∧ Below w.heap.size w w' := by
  have hb : Below w.heap.size w ((((w.alloc (.cells #[.pointer none] 25)).alloc (.cells #[.int .i64 a] 3)).alloc (.cells #[.int .i64 x] 3)).alloc (.cells #[.int .i64 0] 3)) := (below_on (below_on (below_on (below_al _ _) (below_al _ _)) (below_al _ _)) (below_al _ _))
  have X := Lib.hid (fun F => exec_nil c F ((((w.alloc (.cells #[.pointer none] 25)).alloc (.cells #[.int .i64 a] 3)).alloc (.cells #[.int .i64 x] 3)).alloc (.cells #[.int .i64 0] 3)))
  have HB := Lib.hid hb
  clear hb
  skip
  go_enter Try.func42, Try.ntmps42
  go_wp2_with (go_at_call 49; refine (X.out _).mono ?_; rintro e w1 ⟨rfl, rfl⟩)
  exact bodyPost_ret (v := .tuple #[.int .i64 0, .int .i64 1]) (by simp [results, Try.results42, go_sem, *]) rfl ⟨rfl, HB.out⟩

set_option maxRecDepth 100000 in
set_option maxHeartbeats 1000000 in
theorem lose6_nil (c : Int) (w : World) :
    Calls Try.prog 43 #[.pointer none, .int .i64 c] w fun e w' => e = .returned (.tuple #[.int .i64 0, .int .i64 1]) ∧ Below w.heap.size w w' := by
  have hb : Below w.heap.size w (w.alloc (.cells #[.int .i64 0] 3)) := (below_al _ _)
  have X := Lib.hid (fun F => exec_nil c F (w.alloc (.cells #[.int .i64 0] 3)))
  have HB := Lib.hid hb
  clear hb
  skip
  go_enter Try.func43, Try.ntmps43
  go_wp2_with (go_at_call 49; refine (X.out _).mono ?_; rintro e w1 ⟨rfl, rfl⟩)
  exact bodyPost_ret (v := .tuple #[.int .i64 0, .int .i64 1]) (by simp [results, Try.results43, go_sem, *]) rfl ⟨rfl, HB.out⟩

set_option maxRecDepth 100000 in
set_option maxHeartbeats 1000000 in
theorem waits6_nil (c : Int) (w : World) :
    Calls Try.prog 24 #[.pointer none, .int .i64 c] w fun e w' => e = .returned (.slice none 0 0) ∧ Below w.heap.size w w' := by
  have hb : Below w.heap.size w (w.alloc (.cells #[.slice none 0 0] 55)) := (below_al _ _)
  have X := Lib.hid (fun F => exec_nil c F (w.alloc (.cells #[.slice none 0 0] 55)))
  have HB := Lib.hid hb
  clear hb
  skip
  go_enter Try.func24, Try.ntmps24
  go_wp2_with (go_at_call 49; refine (X.out _).mono ?_; rintro e w1 ⟨rfl, rfl⟩)
  exact bodyPost_ret (v := .slice none 0 0) (by simp [results, Try.results24, go_sem, *]) rfl ⟨rfl, HB.out⟩

set_option maxRecDepth 100000 in
set_option maxHeartbeats 1000000 in
theorem cores6_any (L : Lay) (N : Nat) (l : List Int) (qs : List (List (Int × Int))) (w : World) (r : BusAt w L N l qs) :
    Calls Try.prog 25 #[ptr L.g] w fun e w' => e = .returned (.int .i64 qs.length) ∧ w = w' := by
  have h1 : w.cell? ⟨L.g, 1, none⟩ = some (.slice (some ⟨L.bb, 0, none⟩) qs.length qs.length) := r.top.cell 1
  clear r
  unfold ptr
  go_enter Try.func25, Try.ntmps25
  go_wp2
  go_ret
  exact ⟨rfl, rfl⟩

set_option maxRecDepth 100000 in
set_option maxHeartbeats 1000000 in
theorem cores6_nil (w : World) :
    Calls Try.prog 25 #[.pointer none] w fun e w' => e = .returned (.int .i64 0) ∧ w = w' := by
  go_enter Try.func25, Try.ntmps25
  go_wp2
  go_ret
  exact ⟨rfl, rfl⟩

set_option maxRecDepth 100000 in
set_option maxHeartbeats 1000000 in
theorem ram6_nil (w : World) :
    Calls Try.prog 23 #[.pointer none] w fun e w' => e = .returned (.pointer none) ∧ w = w' := by
  go_enter Try.func23, Try.ntmps23
  go_wp2
  go_ret
  exact ⟨rfl, rfl⟩

set_option maxRecDepth 100000 in
set_option maxHeartbeats 1000000 in
theorem ram6_any (L : Lay) (N : Nat) (l : List Int) (qs : List (List (Int × Int))) (w : World) (r : BusAt w L N l qs) :
    Calls Try.prog 23 #[ptr L.g] w (CloneP l w) := by
  have h1 : w.cell? ⟨L.g, 0, none⟩ = some (.pointer (some ⟨L.rg, 0, none⟩)) := r.top.cell 0
  have cl := Lib.hid (clone_any L.rg L.rh l w r.ram)
  clear r
  unfold ptr at cl ⊢
  go_enter Try.func23, Try.ntmps23
  go_wp2_with (go_at_call 44; refine cl.out.mono ?_; rintro e w1 ⟨g, h, rfl, hr, h1, h2, hb⟩; unfold ptr)
  go_ret
  exact ⟨g, h, rfl, hr, h1, h2, hb⟩

#print axioms load6_ok
#print axioms waits6_ok
#print axioms ram6_any
end Go.Proofs.Ytgoogclcpnfmkaa
