/-
  The reference of layer 6: Store, Swap.
  Conditions: those that each theorem states.
-/
import Derived.Test.YtgoogclcpnfmkaaRBus4
namespace Go.Proofs.Ytgoogclcpnfmkaa
open Go.ChangeShapes Go.WideShapes Go.ChangeAt Go.RowKit

set_option maxRecDepth 100000 in
set_option maxHeartbeats 2000000 in
theorem rstore6_no (P : Nat → Prop) (N : Nat) (l : List Int) (qs : List (List (Int × Int))) (vr vb : Value) (c a x : Int) (w : World) (r : RBus w P N l qs vr vb) (hc : ¬ cIn qs c) :
    Calls Try.prog 34 #[.agg #[vr, vb], .int .i64 c, .int .i64 a, .int .i64 x] w (RBusP P N l qs (fun b => .tuple #[b, .int .i64 3]) w) := by
  have r := r.off 2
  have hlm := r.size
  have hm := r.most
  obtain ⟨A, k, B, d, rfl, rfl⟩ := r.open_
  obtain ⟨w2, hw2⟩ : ∃ w2, boxW w (.slice A l.length k) (.slice B qs.length d) = w2 := ⟨_, rfl⟩
  have hb2 := boxW_below w (.slice A l.length k) (.slice B qs.length d)
  obtain ⟨r0, r1⟩ := boxW_rows w (.slice A l.length k) (.slice B qs.length d)
  rw [hw2] at hb2 r0 r1
  unfold boxW at hw2
  have r2 := r.below hb2
  have R2 := Lib.hid r2
  have HB2 := Lib.hid hb2
  have R0 := Lib.hid r0
  have R1 := Lib.hid r1
  have a0 := r0.cell 0
  have a1 := r0.cell 1
  simp only [List.getElem?_cons_zero, List.getElem?_cons_succ] at a0 a1
  have w1 := rwrong_core (Off P w.heap.size 2) N l qs _ _ c a w2 r2 hc
  have W1 := Lib.hid w1
  clear r r0 r1 r2 w1 hb2 hc hm hlm
  go_enter Try.func34, Try.ntmps34
  go_wp2_with fail
  refine W1.out.mono ?_
  rintro e w3 ⟨rfl, hb3⟩
  have t0 := R0.out.below hb3
  have t1 := R1.out.below hb3
  have x0 := t0.cell 0
  have x1 := t0.cell 1
  have y0 := t1.cell 0
  have y1 := t1.cell 1
  have f0 := t1.soft 0
  have f1 := t1.soft 1
  simp only [List.getElem?_cons_zero, List.getElem?_cons_succ] at x0 x1 y0 y1
  have HB3 := Lib.hid (below_on HB2.out hb3)
  have RR := Lib.hid (R2.out.below hb3)
  clear t0 t1 hb3 hw2 a0 a1
  go_wp2_with fail
  have hbF := ((HB3.out.setCell (p := ⟨w.heap.size + 1, 0, none⟩) (by show w.heap.size ≤ w.heap.size + 1; omega) (.slice A l.length k)).setCell (p := ⟨w.heap.size + 1, 1, none⟩) (by show w.heap.size ≤ w.heap.size + 1; omega) (.slice B qs.length d))
  exact bodyPost_ret (v := .tuple #[.agg #[.slice A l.length k, .slice B qs.length d], .int .i64 3]) (by simp [results, Try.results34, go_sem, *]) rfl ⟨A, _, k, B, _, d, rfl, ((RR.out.own (by omega) (by omega) 0 _).own (by omega) (by omega) 1 _).on, hbF⟩

set_option maxRecDepth 100000 in
set_option maxHeartbeats 2000000 in
theorem rstore6_adr (P : Nat → Prop) (N : Nat) (l : List Int) (qs : List (List (Int × Int))) (vr vb : Value) (c a x : Int) (w : World) (r : RBus w P N l qs vr vb) (hc : cIn qs c) (hE : runE l.length a 1 ≠ 0) :
    Calls Try.prog 34 #[.agg #[vr, vb], .int .i64 c, .int .i64 a, .int .i64 x] w (RBusP P N l qs (fun b => .tuple #[b, .int .i64 (runE l.length a 1)]) w) := by
  have r := r.off 2
  have hlm := r.size
  have hm := r.most
  obtain ⟨A, k, B, d, rfl, rfl⟩ := r.open_
  obtain ⟨w2, hw2⟩ : ∃ w2, boxW w (.slice A l.length k) (.slice B qs.length d) = w2 := ⟨_, rfl⟩
  have hb2 := boxW_below w (.slice A l.length k) (.slice B qs.length d)
  obtain ⟨r0, r1⟩ := boxW_rows w (.slice A l.length k) (.slice B qs.length d)
  rw [hw2] at hb2 r0 r1
  unfold boxW at hw2
  have r2 := r.below hb2
  have R2 := Lib.hid r2
  have HB2 := Lib.hid hb2
  have R0 := Lib.hid r0
  have R1 := Lib.hid r1
  have a0 := r0.cell 0
  have a1 := r0.cell 1
  simp only [List.getElem?_cons_zero, List.getElem?_cons_succ] at a0 a1
  have w1 := rwrong_ok (Off P w.heap.size 2) N l qs _ _ c a w2 r2 hc
  obtain ⟨z, hz⟩ : ∃ z, runE l.length a 1 = z := ⟨_, rfl⟩
  rw [hz] at w1 hE ⊢
  have hzb : (z != 0) = true := by simpa using hE
  clear hz hE
  have W1 := Lib.hid w1
  clear r r0 r1 r2 w1 hb2 hc hm hlm
  go_enter Try.func34, Try.ntmps34
  go_wp2_with fail
  refine W1.out.mono ?_
  rintro e w3 ⟨rfl, hb3⟩
  have t0 := R0.out.below hb3
  have t1 := R1.out.below hb3
  have x0 := t0.cell 0
  have x1 := t0.cell 1
  have y0 := t1.cell 0
  have y1 := t1.cell 1
  have f0 := t1.soft 0
  have f1 := t1.soft 1
  simp only [List.getElem?_cons_zero, List.getElem?_cons_succ] at x0 x1 y0 y1
  have HB3 := Lib.hid (below_on HB2.out hb3)
  have RR := Lib.hid (R2.out.below hb3)
  clear t0 t1 hb3 hw2 a0 a1
  go_wp2_with fail
  have hbF := ((HB3.out.setCell (p := ⟨w.heap.size + 1, 0, none⟩) (by show w.heap.size ≤ w.heap.size + 1; omega) (.slice A l.length k)).setCell (p := ⟨w.heap.size + 1, 1, none⟩) (by show w.heap.size ≤ w.heap.size + 1; omega) (.slice B qs.length d))
  exact bodyPost_ret (v := .tuple #[.agg #[.slice A l.length k, .slice B qs.length d], .int .i64 z]) (by simp [results, Try.results34, go_sem, *]) rfl ⟨A, _, k, B, _, d, rfl, ((RR.out.own (by omega) (by omega) 0 _).own (by omega) (by omega) 1 _).on, hbF⟩

set_option maxRecDepth 100000 in
set_option maxHeartbeats 2000000 in
theorem rstore6_word (P : Nat → Prop) (N : Nat) (l : List Int) (qs : List (List (Int × Int))) (vr vb : Value) (c a x : Int) (w : World) (r : RBus w P N l qs vr vb) (hc : cIn qs c) (hE : runE l.length a 1 = 0) (hx : x < 0 ∨ 65535 < x) :
    Calls Try.prog 34 #[.agg #[vr, vb], .int .i64 c, .int .i64 a, .int .i64 x] w (RBusP P N l qs (fun b => .tuple #[b, .int .i64 2]) w) := by
  have r := r.off 2
  have hlm := r.size
  have hm := r.most
  obtain ⟨A, k, B, d, rfl, rfl⟩ := r.open_
  obtain ⟨w2, hw2⟩ : ∃ w2, boxW w (.slice A l.length k) (.slice B qs.length d) = w2 := ⟨_, rfl⟩
  have hb2 := boxW_below w (.slice A l.length k) (.slice B qs.length d)
  obtain ⟨r0, r1⟩ := boxW_rows w (.slice A l.length k) (.slice B qs.length d)
  rw [hw2] at hb2 r0 r1
  unfold boxW at hw2
  have r2 := r.below hb2
  have R2 := Lib.hid r2
  have HB2 := Lib.hid hb2
  have R0 := Lib.hid r0
  have R1 := Lib.hid r1
  have a0 := r0.cell 0
  have a1 := r0.cell 1
  simp only [List.getElem?_cons_zero, List.getElem?_cons_succ] at a0 a1
  have w1 := rwrong_ok (Off P w.heap.size 2) N l qs _ _ c a w2 r2 hc
  rw [hE] at w1
  have IS := Lib.hid (fun W => ris_no x W hx)
  have W1 := Lib.hid w1
  clear r r0 r1 r2 w1 hb2 hc hE hx hm hlm
  go_enter Try.func34, Try.ntmps34
  go_wp2_with fail
  refine W1.out.mono ?_
  rintro e w3 ⟨rfl, hb3⟩
  have t0 := R0.out.below hb3
  have t1 := R1.out.below hb3
  have x0 := t0.cell 0
  have x1 := t0.cell 1
  have y0 := t1.cell 0
  have y1 := t1.cell 1
  have f0 := t1.soft 0
  have f1 := t1.soft 1
  simp only [List.getElem?_cons_zero, List.getElem?_cons_succ] at x0 x1 y0 y1
  have HB3 := Lib.hid (below_on HB2.out hb3)
  have RR := Lib.hid (R2.out.below hb3)
  clear t0 t1 hb3 hw2 a0 a1
  go_wp2_with fail
  refine (IS.out _).mono ?_
  rintro e w' ⟨rfl, rfl⟩
  go_wp2_with fail
  have hbF := ((HB3.out.setCell (p := ⟨w.heap.size + 1, 0, none⟩) (by show w.heap.size ≤ w.heap.size + 1; omega) (.slice A l.length k)).setCell (p := ⟨w.heap.size + 1, 1, none⟩) (by show w.heap.size ≤ w.heap.size + 1; omega) (.slice B qs.length d))
  exact bodyPost_ret (v := .tuple #[.agg #[.slice A l.length k, .slice B qs.length d], .int .i64 2]) (by simp [results, Try.results34, go_sem, *]) rfl ⟨A, _, k, B, _, d, rfl, ((RR.out.own (by omega) (by omega) 0 _).own (by omega) (by omega) 1 _).on, hbF⟩

set_option maxRecDepth 100000 in
set_option maxHeartbeats 2000000 in
theorem rswap6_no (P : Nat → Prop) (N : Nat) (l : List Int) (qs : List (List (Int × Int))) (vr vb : Value) (c a x : Int) (w : World) (r : RBus w P N l qs vr vb) (hc : ¬ cIn qs c) :
    Calls Try.prog 35 #[.agg #[vr, vb], .int .i64 c, .int .i64 a, .int .i64 x] w (RBusP P N l qs (fun b => .tuple #[b, .int .i64 0, .int .i64 3]) w) := by
  have r := r.off 2
  have hlm := r.size
  have hm := r.most
  obtain ⟨A, k, B, d, rfl, rfl⟩ := r.open_
  obtain ⟨w2, hw2⟩ : ∃ w2, boxW w (.slice A l.length k) (.slice B qs.length d) = w2 := ⟨_, rfl⟩
  have hb2 := boxW_below w (.slice A l.length k) (.slice B qs.length d)
  obtain ⟨r0, r1⟩ := boxW_rows w (.slice A l.length k) (.slice B qs.length d)
  rw [hw2] at hb2 r0 r1
  unfold boxW at hw2
  have r2 := r.below hb2
  have R2 := Lib.hid r2
  have HB2 := Lib.hid hb2
  have R0 := Lib.hid r0
  have R1 := Lib.hid r1
  have a0 := r0.cell 0
  have a1 := r0.cell 1
  simp only [List.getElem?_cons_zero, List.getElem?_cons_succ] at a0 a1
  have w1 := rwrong_core (Off P w.heap.size 2) N l qs _ _ c a w2 r2 hc
  have W1 := Lib.hid w1
  clear r r0 r1 r2 w1 hb2 hc hm hlm
  go_enter Try.func35, Try.ntmps35
  go_wp2_with fail
  refine W1.out.mono ?_
  rintro e w3 ⟨rfl, hb3⟩
  have t0 := R0.out.below hb3
  have t1 := R1.out.below hb3
  have x0 := t0.cell 0
  have x1 := t0.cell 1
  have y0 := t1.cell 0
  have y1 := t1.cell 1
  have f0 := t1.soft 0
  have f1 := t1.soft 1
  simp only [List.getElem?_cons_zero, List.getElem?_cons_succ] at x0 x1 y0 y1
  have HB3 := Lib.hid (below_on HB2.out hb3)
  have RR := Lib.hid (R2.out.below hb3)
  clear t0 t1 hb3 hw2 a0 a1
  go_wp2_with fail
  have hbF := ((HB3.out.setCell (p := ⟨w.heap.size + 1, 0, none⟩) (by show w.heap.size ≤ w.heap.size + 1; omega) (.slice A l.length k)).setCell (p := ⟨w.heap.size + 1, 1, none⟩) (by show w.heap.size ≤ w.heap.size + 1; omega) (.slice B qs.length d))
  exact bodyPost_ret (v := .tuple #[.agg #[.slice A l.length k, .slice B qs.length d], .int .i64 0, .int .i64 3]) (by simp [results, Try.results35, go_sem, *]) rfl ⟨A, _, k, B, _, d, rfl, ((RR.out.own (by omega) (by omega) 0 _).own (by omega) (by omega) 1 _).on, hbF⟩

set_option maxRecDepth 100000 in
set_option maxHeartbeats 2000000 in
theorem rswap6_adr (P : Nat → Prop) (N : Nat) (l : List Int) (qs : List (List (Int × Int))) (vr vb : Value) (c a x : Int) (w : World) (r : RBus w P N l qs vr vb) (hc : cIn qs c) (hE : runE l.length a 1 ≠ 0) :
    Calls Try.prog 35 #[.agg #[vr, vb], .int .i64 c, .int .i64 a, .int .i64 x] w (RBusP P N l qs (fun b => .tuple #[b, .int .i64 0, .int .i64 (runE l.length a 1)]) w) := by
  have r := r.off 2
  have hlm := r.size
  have hm := r.most
  obtain ⟨A, k, B, d, rfl, rfl⟩ := r.open_
  obtain ⟨w2, hw2⟩ : ∃ w2, boxW w (.slice A l.length k) (.slice B qs.length d) = w2 := ⟨_, rfl⟩
  have hb2 := boxW_below w (.slice A l.length k) (.slice B qs.length d)
  obtain ⟨r0, r1⟩ := boxW_rows w (.slice A l.length k) (.slice B qs.length d)
  rw [hw2] at hb2 r0 r1
  unfold boxW at hw2
  have r2 := r.below hb2
  have R2 := Lib.hid r2
  have HB2 := Lib.hid hb2
  have R0 := Lib.hid r0
  have R1 := Lib.hid r1
  have a0 := r0.cell 0
  have a1 := r0.cell 1
  simp only [List.getElem?_cons_zero, List.getElem?_cons_succ] at a0 a1
  have w1 := rwrong_ok (Off P w.heap.size 2) N l qs _ _ c a w2 r2 hc
  obtain ⟨z, hz⟩ : ∃ z, runE l.length a 1 = z := ⟨_, rfl⟩
  rw [hz] at w1 hE ⊢
  have hzb : (z != 0) = true := by simpa using hE
  clear hz hE
  have W1 := Lib.hid w1
  clear r r0 r1 r2 w1 hb2 hc hm hlm
  go_enter Try.func35, Try.ntmps35
  go_wp2_with fail
  refine W1.out.mono ?_
  rintro e w3 ⟨rfl, hb3⟩
  have t0 := R0.out.below hb3
  have t1 := R1.out.below hb3
  have x0 := t0.cell 0
  have x1 := t0.cell 1
  have y0 := t1.cell 0
  have y1 := t1.cell 1
  have f0 := t1.soft 0
  have f1 := t1.soft 1
  simp only [List.getElem?_cons_zero, List.getElem?_cons_succ] at x0 x1 y0 y1
  have HB3 := Lib.hid (below_on HB2.out hb3)
  have RR := Lib.hid (R2.out.below hb3)
  clear t0 t1 hb3 hw2 a0 a1
  go_wp2_with fail
  have hbF := ((HB3.out.setCell (p := ⟨w.heap.size + 1, 0, none⟩) (by show w.heap.size ≤ w.heap.size + 1; omega) (.slice A l.length k)).setCell (p := ⟨w.heap.size + 1, 1, none⟩) (by show w.heap.size ≤ w.heap.size + 1; omega) (.slice B qs.length d))
  exact bodyPost_ret (v := .tuple #[.agg #[.slice A l.length k, .slice B qs.length d], .int .i64 0, .int .i64 z]) (by simp [results, Try.results35, go_sem, *]) rfl ⟨A, _, k, B, _, d, rfl, ((RR.out.own (by omega) (by omega) 0 _).own (by omega) (by omega) 1 _).on, hbF⟩

set_option maxRecDepth 100000 in
set_option maxHeartbeats 2000000 in
theorem rswap6_word (P : Nat → Prop) (N : Nat) (l : List Int) (qs : List (List (Int × Int))) (vr vb : Value) (c a x : Int) (w : World) (r : RBus w P N l qs vr vb) (hc : cIn qs c) (hE : runE l.length a 1 = 0) (hx : x < 0 ∨ 65535 < x) :
    Calls Try.prog 35 #[.agg #[vr, vb], .int .i64 c, .int .i64 a, .int .i64 x] w (RBusP P N l qs (fun b => .tuple #[b, .int .i64 0, .int .i64 2]) w) := by
  have r := r.off 2
  have hlm := r.size
  have hm := r.most
  obtain ⟨A, k, B, d, rfl, rfl⟩ := r.open_
  obtain ⟨w2, hw2⟩ : ∃ w2, boxW w (.slice A l.length k) (.slice B qs.length d) = w2 := ⟨_, rfl⟩
  have hb2 := boxW_below w (.slice A l.length k) (.slice B qs.length d)
  obtain ⟨r0, r1⟩ := boxW_rows w (.slice A l.length k) (.slice B qs.length d)
  rw [hw2] at hb2 r0 r1
  unfold boxW at hw2
  have r2 := r.below hb2
  have R2 := Lib.hid r2
  have HB2 := Lib.hid hb2
  have R0 := Lib.hid r0
  have R1 := Lib.hid r1
  have a0 := r0.cell 0
  have a1 := r0.cell 1
  simp only [List.getElem?_cons_zero, List.getElem?_cons_succ] at a0 a1
  have w1 := rwrong_ok (Off P w.heap.size 2) N l qs _ _ c a w2 r2 hc
  rw [hE] at w1
  have IS := Lib.hid (fun W => ris_no x W hx)
  have W1 := Lib.hid w1
  clear r r0 r1 r2 w1 hb2 hc hE hx hm hlm
  go_enter Try.func35, Try.ntmps35
  go_wp2_with fail
  refine W1.out.mono ?_
  rintro e w3 ⟨rfl, hb3⟩
  have t0 := R0.out.below hb3
  have t1 := R1.out.below hb3
  have x0 := t0.cell 0
  have x1 := t0.cell 1
  have y0 := t1.cell 0
  have y1 := t1.cell 1
  have f0 := t1.soft 0
  have f1 := t1.soft 1
  simp only [List.getElem?_cons_zero, List.getElem?_cons_succ] at x0 x1 y0 y1
  have HB3 := Lib.hid (below_on HB2.out hb3)
  have RR := Lib.hid (R2.out.below hb3)
  clear t0 t1 hb3 hw2 a0 a1
  go_wp2_with fail
  refine (IS.out _).mono ?_
  rintro e w' ⟨rfl, rfl⟩
  go_wp2_with fail
  have hbF := ((HB3.out.setCell (p := ⟨w.heap.size + 1, 0, none⟩) (by show w.heap.size ≤ w.heap.size + 1; omega) (.slice A l.length k)).setCell (p := ⟨w.heap.size + 1, 1, none⟩) (by show w.heap.size ≤ w.heap.size + 1; omega) (.slice B qs.length d))
  exact bodyPost_ret (v := .tuple #[.agg #[.slice A l.length k, .slice B qs.length d], .int .i64 0, .int .i64 2]) (by simp [results, Try.results35, go_sem, *]) rfl ⟨A, _, k, B, _, d, rfl, ((RR.out.own (by omega) (by omega) 0 _).own (by omega) (by omega) 1 _).on, hbF⟩

set_option maxRecDepth 100000 in
set_option maxHeartbeats 2000000 in
theorem rstore6_room (P : Nat → Prop) (N : Nat) (l : List Int) (qs : List (List (Int × Int))) (vr vb : Value) (i : Nat) (q : List (Int × Int)) (a x : Int) (w : World) (r : RBus w P N l qs vr vb) (hq : qs[i]? = some q) (hP : ∀ b, w.heap.size ≤ b → P b) (hE : fillE l.length a 1 x = 0) (hN : q.length < N) :
    Calls Try.prog 34 #[.agg #[vr, vb], .int .i64 (i : Int), .int .i64 a, .int .i64 x] w (RBusP P N (l) (qs.set i (q ++ [(a, x)])) (fun b => .tuple #[b, .int .i64 0]) w) := by
  have r := r.off 2
  have hlm := r.size
  have hm := r.most
  have hi := lt_of_at hq
  have hfit := r.fit _ (List.mem_of_getElem? hq)
  have h16 := r.cap16
  obtain ⟨hok, hal⟩ := fillE_word hE hlm
  have HP' : Hid (∀ b, w.heap.size + 2 ≤ b → Off P w.heap.size 2 b) := Lib.hid (fun b hb => Off.of (hP b (by omega)) (.inr hb))
  obtain ⟨A, k, B, d, rfl, rfl⟩ := r.open_
  obtain ⟨g, o, v, rfl, hPg, hg, e0, e1, hv, hcv⟩ := r.buf hq
  obtain ⟨Av, nv, cv, rfl, HNV, HV⟩ := hv.open_
  obtain ⟨w2, hw2⟩ : ∃ w2, boxW w (.slice A l.length k) (.slice (some ⟨g, o, none⟩) qs.length d) = w2 := ⟨_, rfl⟩
  have hb2 := boxW_below w (.slice A l.length k) (.slice (some ⟨g, o, none⟩) qs.length d)
  obtain ⟨r0, r1⟩ := boxW_rows w (.slice A l.length k) (.slice (some ⟨g, o, none⟩) qs.length d)
  rw [hw2] at hb2 r0 r1
  unfold boxW at hw2
  have r2 := r.below hb2
  have R2 := Lib.hid r2
  have HB2 := Lib.hid hb2
  have R0 := Lib.hid r0
  have R1 := Lib.hid r1
  have a0 := r0.cell 0
  have a1 := r0.cell 1
  simp only [List.getElem?_cons_zero, List.getElem?_cons_succ] at a0 a1
  have w1 := rwrong_ok (Off P w.heap.size 2) N l qs _ _ i a w2 r2 ⟨by omega, by omega⟩
  rw [(fillE_ok hE).1] at w1
  have hnv : q.length = nv := by have := HNV.out; rwa [sts_len] at this
  rw [hnv] at hN
  have W1 := Lib.hid w1
  have HCV := Lib.hid hcv
  have HQ := Lib.hid hq
  have HOK := Lib.hid hok
  have HFit := Lib.hid hfit
  have HNV2 := Lib.hid hnv
  have x0' : 0 ≤ x := hok.2.2.1
  have x1' : x ≤ 65535 := hok.2.2.2
  obtain ⟨C, hC⟩ : ∃ C, qs.length = C := ⟨_, rfl⟩
  obtain ⟨n, hn⟩ : ∃ n, l.length = n := ⟨_, rfl⟩
  rw [hC, hn] at hw2 R0 R2 W1
  rw [hn] at a0
  rw [hC] at a1
  rw [hC] at hi hm
  rw [hC, hn]
  have HC := Lib.hid hC
  have hge : ¬ ((N : Int) ≤ (nv : Int)) := by omega
  clear r r0 r1 r2 w1 hb2 hv hq hcv hok hE hal hP hfit hnv hC hn hlm
  go_enter Try.func34, Try.ntmps34
  go_wp2_with fail
  refine W1.out.mono ?_
  rintro e w3 ⟨rfl, hb3⟩
  have t0 := R0.out.below hb3
  have t1 := R1.out.below hb3
  have x0 := t0.cell 0
  have x1 := t0.cell 1
  have y0 := t1.cell 0
  have y1 := t1.cell 1
  have f0 := t1.soft 0
  have f1 := t1.soft 1
  simp only [List.getElem?_cons_zero, List.getElem?_cons_succ] at x0 x1 y0 y1
  have HB3 := Lib.hid (below_on HB2.out hb3)
  have RR := Lib.hid (R2.out.below hb3)
  have T0 := Lib.hid t0
  have T1 := Lib.hid t1
  have b3 := below_on HB2.out hb3
  have c0 : w3.cell? ⟨g, o + i * 2, none⟩ = some (.int .i64 N) := (b3.cell (p := ⟨g, o + i * 2, none⟩) hg).trans e0
  have c1 : w3.cell? ⟨g, o + i * 2 + 1, none⟩ = some (.slice Av nv cv) := (b3.cell (p := ⟨g, o + i * 2 + 1, none⟩) hg).trans e1
  have HV3 := Lib.hid (HV.out.below b3)
  have l3 := t1.lt
  clear t0 t1 hb3 hw2 a0 a1 b3 e0 e1
  go_wp2_with fail
  refine (ris_yes _ _ x0' x1').mono ?_
  rintro e w' ⟨rfl, rfl⟩
  go_wp2_with fail
  go_quiet (fail)
  go_wp2_with fail
  refine (rbput_room (Off P w.heap.size 2) N (.slice Av nv cv) q a x _ (HV3.out.below (below_q w3 _)) HCV.out HOK.out (by rw [HNV2.out]; exact hN) h16 (fun b hb => HP'.out b (by have : w3.heap.size ≤ b := hb; omega))).mono ?_
  rintro e w5 ⟨v5, rfl, hv5, hcv5, hb5⟩
  obtain ⟨A5, n5, c5, rfl, HN5, HV5⟩ := hv5.open_
  have b5 : Below w3.heap.size w3 w5 := below_on (below_q w3 _) hb5
  have t0 := T0.out.below b5
  have t1 := T1.out.below b5
  have z0 := t0.cell 0
  have z1 := t0.cell 1
  have y0 := t1.cell 0
  have y1 := t1.cell 1
  have f0 := t1.soft 0
  have f1 := t1.soft 1
  simp only [List.getElem?_cons_zero, List.getElem?_cons_succ] at z0 z1 y0 y1
  have R5 := Lib.hid (RR.out.below b5)
  have HB5 := Lib.hid (below_on HB3.out b5)
  have T1' := Lib.hid t1
  have l5 := t1.lt
  have l5' : w.heap.size < w5.heap.size := by omega
  have m0 : w.heap.size ≠ w5.heap.size := by omega
  have m1 : w.heap.size + 1 ≠ w5.heap.size := by omega
  have WT := Lib.hid (fun W (hb : Below w5.heap.size w5 W) => rwith_any (Off P w.heap.size 2) N l qs (.slice A n k) (.slice (some ⟨g, o, none⟩) C d) (.slice A5 n5 c5) i (q ++ [(a, x)]) W (R5.out.below hb) (by rw [HC.out]; exact hi) (HV5.out.below hb) hcv5 (by rw [List.length_append, HNV2.out]; exact hN) (fun b hb' => HP'.out b (by have := hb.size; omega)))
  clear t0 t1 hb5 hcv5 hv5 b5
  unfold rbufV
  dsimp only
  go_wp2_with fail
  refine (WT.out _ (below_al _ _)).mono ?_
  rintro e w6 ⟨A6, n6, c6, B6, m6, d6, rfl, hr6, hb6⟩
  simp only [id]
  have b6 := below_on (below_al w5 _) hb6
  have t1 := T1'.out.below b6
  have y0 := t1.cell 0
  have y1 := t1.cell 1
  have f0 := t1.soft 0
  have f1 := t1.soft 1
  simp only [List.getElem?_cons_zero, List.getElem?_cons_succ] at y0 y1
  have R6 := Lib.hid hr6
  have HB6 := Lib.hid (below_on HB5.out b6)
  clear t1 hr6 hb6 b6
  go_wp2_with fail
  have hbF := ((HB6.out.setCell (p := ⟨w.heap.size + 1, 0, none⟩) (by show w.heap.size ≤ w.heap.size + 1; omega) (.slice A6 n6 c6)).setCell (p := ⟨w.heap.size + 1, 1, none⟩) (by show w.heap.size ≤ w.heap.size + 1; omega) (.slice B6 m6 d6))
  have r6 := R6.out
  exact bodyPost_ret (v := .tuple #[.agg #[.slice A6 n6 c6, .slice B6 m6 d6], .int .i64 0]) (by simp [results, Try.results34, go_sem, *]) rfl ⟨A6, n6, c6, B6, m6, d6, rfl, ((r6.own (by omega) (by omega) 0 _).own (by omega) (by omega) 1 _).on, hbF⟩

set_option maxRecDepth 100000 in
set_option maxHeartbeats 2000000 in
theorem rstore6_full (P : Nat → Prop) (N : Nat) (l : List Int) (qs : List (List (Int × Int))) (vr vb : Value) (i : Nat) (q : List (Int × Int)) (a x : Int) (w : World) (r : RBus w P N l qs vr vb) (hq : qs[i]? = some q) (hP : ∀ b, w.heap.size ≤ b → P b) (hE : fillE l.length a 1 x = 0) (hN : q.length = N) (hpos : 1 ≤ N) :
    Calls Try.prog 34 #[.agg #[vr, vb], .int .i64 (i : Int), .int .i64 a, .int .i64 x] w (RBusP P N (drs l (q.take 1)) (qs.set i (q.drop 1 ++ [(a, x)])) (fun b => .tuple #[b, .int .i64 0]) w) := by
  have r := r.off 2
  have hlm := r.size
  have hm := r.most
  have hi := lt_of_at hq
  have hfit := r.fit _ (List.mem_of_getElem? hq)
  have h16 := r.cap16
  have HPos := Lib.hid hpos
  obtain ⟨hok, hal⟩ := fillE_word hE hlm
  have HP' : Hid (∀ b, w.heap.size + 2 ≤ b → Off P w.heap.size 2 b) := Lib.hid (fun b hb => Off.of (hP b (by omega)) (.inr hb))
  obtain ⟨A, k, B, d, rfl, rfl⟩ := r.open_
  obtain ⟨g, o, v, rfl, hPg, hg, e0, e1, hv, hcv⟩ := r.buf hq
  obtain ⟨Av, nv, cv, rfl, HNV, HV⟩ := hv.open_
  obtain ⟨w2, hw2⟩ : ∃ w2, boxW w (.slice A l.length k) (.slice (some ⟨g, o, none⟩) qs.length d) = w2 := ⟨_, rfl⟩
  have hb2 := boxW_below w (.slice A l.length k) (.slice (some ⟨g, o, none⟩) qs.length d)
  obtain ⟨r0, r1⟩ := boxW_rows w (.slice A l.length k) (.slice (some ⟨g, o, none⟩) qs.length d)
  rw [hw2] at hb2 r0 r1
  unfold boxW at hw2
  have r2 := r.below hb2
  have R2 := Lib.hid r2
  have HB2 := Lib.hid hb2
  have R0 := Lib.hid r0
  have R1 := Lib.hid r1
  have a0 := r0.cell 0
  have a1 := r0.cell 1
  simp only [List.getElem?_cons_zero, List.getElem?_cons_succ] at a0 a1
  have w1 := rwrong_ok (Off P w.heap.size 2) N l qs _ _ i a w2 r2 ⟨by omega, by omega⟩
  rw [(fillE_ok hE).1] at w1
  have hnv : q.length = nv := by have := HNV.out; rwa [sts_len] at this
  rw [hnv] at hN
  have W1 := Lib.hid w1
  have HCV := Lib.hid hcv
  have HQ := Lib.hid hq
  have HOK := Lib.hid hok
  have HFit := Lib.hid hfit
  have HNV2 := Lib.hid hnv
  have x0' : 0 ≤ x := hok.2.2.1
  have x1' : x ≤ 65535 := hok.2.2.2
  obtain ⟨C, hC⟩ : ∃ C, qs.length = C := ⟨_, rfl⟩
  obtain ⟨n, hn⟩ : ∃ n, l.length = n := ⟨_, rfl⟩
  rw [hC, hn] at hw2 R0 R2 W1
  rw [hn] at a0
  rw [hC] at a1
  rw [hC] at hi hm
  rw [hC, hn]
  have HC := Lib.hid hC
  subst hN
  clear r r0 r1 r2 w1 hb2 hv hq hcv hok hE hal hP hfit hnv hC hn hlm
  go_enter Try.func34, Try.ntmps34
  go_wp2_with fail
  refine W1.out.mono ?_
  rintro e w3 ⟨rfl, hb3⟩
  have t0 := R0.out.below hb3
  have t1 := R1.out.below hb3
  have x0 := t0.cell 0
  have x1 := t0.cell 1
  have y0 := t1.cell 0
  have y1 := t1.cell 1
  have f0 := t1.soft 0
  have f1 := t1.soft 1
  simp only [List.getElem?_cons_zero, List.getElem?_cons_succ] at x0 x1 y0 y1
  have HB3 := Lib.hid (below_on HB2.out hb3)
  have RR := Lib.hid (R2.out.below hb3)
  have T0 := Lib.hid t0
  have T1 := Lib.hid t1
  have b3 := below_on HB2.out hb3
  have c0 : w3.cell? ⟨g, o + i * 2, none⟩ = some (.int .i64 nv) := (b3.cell (p := ⟨g, o + i * 2, none⟩) hg).trans e0
  have c1 : w3.cell? ⟨g, o + i * 2 + 1, none⟩ = some (.slice Av nv cv) := (b3.cell (p := ⟨g, o + i * 2 + 1, none⟩) hg).trans e1
  have HV3 := Lib.hid (HV.out.below b3)
  have l3 := t1.lt
  clear t0 t1 hb3 hw2 a0 a1 b3 e0 e1
  go_wp2_with fail
  refine (ris_yes _ _ x0' x1').mono ?_
  rintro e w' ⟨rfl, rfl⟩
  go_wp2_with fail
  go_quiet (fail)
  have dr := fun W (hb : Below w3.heap.size w3 W) => rdrain6_any (Off P w.heap.size 2) nv l qs (.slice A n k) (.slice (some ⟨g, o, none⟩) C d) i q W (RR.out.below hb) HQ.out (fun b hb' => HP'.out b (by have := hb.size; omega))
  have DR := Lib.hid dr
  clear dr
  go_wp2_with fail
  refine (DR.out _ (below_q w3 _)).mono ?_
  rintro e w4 ⟨A4, n4, c4, B4, m4, d4, rfl, hr4, hb4⟩
  dsimp only
  have b4 : Below w3.heap.size w3 w4 := below_on (below_q w3 _) hb4
  have t0 := T0.out.below b4
  have t1 := T1.out.below b4
  have z0 := t0.cell 0
  have z1 := t0.cell 1
  have g0 := t0.soft 0
  have g1 := t0.soft 1
  simp only [List.getElem?_cons_zero, List.getElem?_cons_succ] at z0 z1
  obtain ⟨ga, oa, va, hBa, hPa, hga, k0, k1, hva, hcva⟩ := hr4.buf (set_at (q.drop 1) (by rw [HC.out]; exact hi) : (qs.set i (q.drop 1))[i]? = some (q.drop 1))
  subst hBa
  obtain ⟨Aw, nw, cw, rfl, HNW, HVW⟩ := hva.open_
  have ng : ga ≠ w.heap.size := fun e => hPa.2 (by omega)
  have hm4 : m4 = C := by
    obtain ⟨_, _, _, _, _, hx⟩ := hr4.open_
    injection hx with _ hx _
    rw [hx, List.length_set, HC.out]
  subst hm4
  have R4 := Lib.hid hr4
  have HB4 := Lib.hid (below_on HB3.out b4)
  have T0' := Lib.hid t0
  have T1' := Lib.hid t1
  have l4 := t1.lt
  clear t0 t1 hr4 hb4 b4 hva x0 x1 y0 y1 f0 f1 c0 c1
  go_wp2_with fail
  refine (rbput_room (Off P w.heap.size 2) nv (.slice Aw nw cw) (q.drop 1) a x _ ((HVW.out.own (Nat.le_refl _) (by omega) 0 _).own (Nat.le_refl _) (by omega) 1 _) hcva HOK.out (by rw [List.length_drop, HNV2.out]; have := HPos.out; omega) h16 (fun b hb => HP'.out b (by simp [World.setCell] at hb; omega))).mono ?_
  rintro e w5 ⟨v5, rfl, hv5, hcv5, hb5⟩
  obtain ⟨A5, n5, c5, rfl, HN5, HV5⟩ := hv5.open_
  have t0 := ((T0'.out.put 0 (.slice A4 n4 c4)).put 1 (.slice (some ⟨ga, oa, none⟩) m4 d4)).below hb5
  have t1 := ((T1'.out.far (p := ⟨w.heap.size, 0, none⟩) (by show w.heap.size + 1 ≠ w.heap.size; omega) (.slice A4 n4 c4)).far (p := ⟨w.heap.size, 1, none⟩) (by show w.heap.size + 1 ≠ w.heap.size; omega) (.slice (some ⟨ga, oa, none⟩) m4 d4)).below hb5
  have z0 := t0.cell 0
  have z1 := t0.cell 1
  have y0 := t1.cell 0
  have y1 := t1.cell 1
  have f0 := t1.soft 0
  have f1 := t1.soft 1
  simp only [List.set_cons_zero, List.set_cons_succ, List.getElem?_cons_zero, List.getElem?_cons_succ] at z0 z1 y0 y1
  have R5 := Lib.hid (((R4.out.own (Nat.le_refl _) (by omega) 0 (.slice A4 n4 c4)).own (Nat.le_refl _) (by omega) 1 (.slice (some ⟨ga, oa, none⟩) m4 d4)).below hb5)
  have HB5 := Lib.hid (below_on ((HB4.out.setCell (p := ⟨w.heap.size, 0, none⟩) (Nat.le_refl _) (.slice A4 n4 c4)).setCell (p := ⟨w.heap.size, 1, none⟩) (Nat.le_refl _) (.slice (some ⟨ga, oa, none⟩) m4 d4)) hb5)
  have T1' := Lib.hid t1
  have l5 := t1.lt
  have l5' : w.heap.size < w5.heap.size := by omega
  have m0 : w.heap.size ≠ w5.heap.size := by omega
  have m1 : w.heap.size + 1 ≠ w5.heap.size := by omega
  have WT := Lib.hid (fun W (hb : Below w5.heap.size w5 W) => rwith_any (Off P w.heap.size 2) nv (drs l (q.take 1)) (qs.set i (q.drop 1)) (.slice A4 n4 c4) (.slice (some ⟨ga, oa, none⟩) m4 d4) (.slice A5 n5 c5) i (q.drop 1 ++ [(a, x)]) W (R5.out.below hb) (by rw [List.length_set, HC.out]; exact hi) (HV5.out.below hb) hcv5 (by rw [List.length_append, List.length_drop, HNV2.out]; have := HPos.out; simp; omega) (fun b hb' => HP'.out b (by have := hb.size; omega)))
  have b5 := hb5
  clear t0 t1 hb5 hcv5 hv5 b5
  unfold rbufV
  dsimp only
  go_wp2_with fail
  refine (WT.out _ (below_al _ _)).mono ?_
  rintro e w6 ⟨A6, n6, c6, B6, m6, d6, rfl, hr6, hb6⟩
  simp only [id]
  have b6 := below_on (below_al w5 _) hb6
  have t1 := T1'.out.below b6
  have y0 := t1.cell 0
  have y1 := t1.cell 1
  have f0 := t1.soft 0
  have f1 := t1.soft 1
  simp only [List.getElem?_cons_zero, List.getElem?_cons_succ] at y0 y1
  have R6 := Lib.hid hr6
  have HB6 := Lib.hid (below_on HB5.out b6)
  clear t1 hr6 hb6 b6
  go_wp2_with fail
  have hbF := ((HB6.out.setCell (p := ⟨w.heap.size + 1, 0, none⟩) (by show w.heap.size ≤ w.heap.size + 1; omega) (.slice A6 n6 c6)).setCell (p := ⟨w.heap.size + 1, 1, none⟩) (by show w.heap.size ≤ w.heap.size + 1; omega) (.slice B6 m6 d6))
  have r6 := R6.out
  rw [List.set_set] at r6
  exact bodyPost_ret (v := .tuple #[.agg #[.slice A6 n6 c6, .slice B6 m6 d6], .int .i64 0]) (by simp [results, Try.results34, go_sem, *]) rfl ⟨A6, n6, c6, B6, m6, d6, rfl, ((r6.own (by omega) (by omega) 0 _).own (by omega) (by omega) 1 _).on, hbF⟩

#print axioms rstore6_room
#print axioms rstore6_full
#print axioms rswap6_word
end Go.Proofs.Ytgoogclcpnfmkaa
