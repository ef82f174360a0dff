/-
  The reference of layer 6: Do.
  Conditions: those that each theorem states.
-/
import Derived.Test.YtgoogclcpnfmkaaRBus6
namespace Go.Proofs.Ytgoogclcpnfmkaa
open Go.ChangeShapes Go.WideShapes Go.ChangeAt Go.RowKit

/-- The bus, a call and two zeros in new blocks. -/
def boxD (w : World) (a b : Value) (K c x y : Int) : World := ((w.alloc (.cells #[a, b] 34)).alloc (.cells #[.int .i64 K, .int .i64 c, .int .i64 x, .int .i64 y] 37)).alloc (.cells #[.slice none 0 0, .slice none 0 0] 34)
theorem boxD_below (w : World) (a b : Value) (K c x y : Int) : Below w.heap.size w (boxD w a b K c x y) := below_on (below_on (below_al _ _) (below_al _ _)) (below_al _ _)
theorem boxD_rows (w : World) (a b : Value) (K c x y : Int) : Row (boxD w a b K c x y) w.heap.size 34 [a, b] ∧ Row (boxD w a b K c x y) (w.heap.size + 1) 37 [.int .i64 K, .int .i64 c, .int .i64 x, .int .i64 y] ∧ Row (boxD w a b K c x y) (w.heap.size + 1 + 1) 34 [.slice none 0 0, .slice none 0 0] := by
  refine ⟨((Row.new w 34 #[a, b]).below (below_al _ _)).below (below_al _ _), ?_, ?_⟩
  · have := (Row.new (w.alloc (.cells #[a, b] 34)) 37 #[.int .i64 K, .int .i64 c, .int .i64 x, .int .i64 y]).below (below_al _ (.cells #[.slice none 0 0, .slice none 0 0] 34))
    rw [size_al] at this
    exact this
  · have := Row.new ((w.alloc (.cells #[a, b] 34)).alloc (.cells #[.int .i64 K, .int .i64 c, .int .i64 x, .int .i64 y] 37)) 34 #[.slice none 0 0, .slice none 0 0]
    rw [size_al, size_al] at this
    exact this

/-- The reference's Store and Swap at any words. -/
theorem rstore6_any (P : Nat → Prop) (N : Nat) (l : List Int) (qs : List (List (Int × Int))) (vr vb : Value) (i : Nat) (q : List (Int × Int)) (a x : Int) (w : World) (r : RBus w P N l qs vr vb) (hq : qs[i]? = some q) (hP : ∀ b, w.heap.size ≤ b → P b) (hN : 1 ≤ N) :
    Calls Try.prog 34 #[.agg #[vr, vb], .int .i64 (i : Int), .int .i64 a, .int .i64 x] w (RBusP P N (stoL N l q a x) (qs.set i (stoQ N l q a x)) (fun b => .tuple #[b, .int .i64 (fillE l.length a 1 x)]) w) := by
  have hi := lt_of_at hq
  have hc : cIn qs i := ⟨by omega, by omega⟩
  unfold stoL stoQ
  by_cases hE : fillE l.length a 1 x = 0
  · rw [if_pos hE, if_pos hE, hE]
    by_cases hf : q.length = N
    · rw [if_pos hf, if_pos hf]
      exact rstore6_full P N l qs vr vb i q a x w r hq hP hE hf hN
    · rw [if_neg hf, if_neg hf]
      exact rstore6_room P N l qs vr vb i q a x w r hq hP hE (by have := r.fit q (List.mem_of_getElem? hq); omega)
  · rw [if_neg hE, if_neg hE, set_same hq]
    by_cases h1 : runE l.length a 1 = 0
    · have hw : isW x = false := by
        cases h : isW x
        · rfl
        · exact absurd (by unfold fillE; rw [if_pos h1, h]; rfl) hE
      have e : fillE l.length a 1 x = 2 := by unfold fillE; rw [if_pos h1, hw]; rfl
      rw [e]
      exact rstore6_word P N l qs vr vb i a x w r hc h1 (by simp [isW] at hw; omega)
    · have e : fillE l.length a 1 x = runE l.length a 1 := by unfold fillE; rw [if_neg h1]
      rw [e]
      exact rstore6_adr P N l qs vr vb i a x w r hc h1

theorem rswap6_any (P : Nat → Prop) (N : Nat) (l : List Int) (qs : List (List (Int × Int))) (vr vb : Value) (i : Nat) (q : List (Int × Int)) (a x : Int) (w : World) (r : RBus w P N l qs vr vb) (hq : qs[i]? = some q) (hP : ∀ b, w.heap.size ≤ b → P b) :
    Calls Try.prog 35 #[.agg #[vr, vb], .int .i64 (i : Int), .int .i64 a, .int .i64 x] w (RBusP P N (swL l q a x) (qs.set i (swQ l q a x)) (fun b => .tuple #[b, .int .i64 (swV l q a x), .int .i64 (fillE l.length a 1 x)]) w) := by
  have hi := lt_of_at hq
  have hc : cIn qs i := ⟨by omega, by omega⟩
  unfold swL swQ swV
  by_cases hE : fillE l.length a 1 x = 0
  · rw [if_pos hE, if_pos hE, if_pos hE, hE]
    exact rswap6_ok P N l qs vr vb i q a x w r hq hP hE
  · rw [if_neg hE, if_neg hE, if_neg hE, set_same hq]
    by_cases h1 : runE l.length a 1 = 0
    · have hw : isW x = false := by
        cases h : isW x
        · rfl
        · exact absurd (by unfold fillE; rw [if_pos h1, h]; rfl) hE
      have e : fillE l.length a 1 x = 2 := by unfold fillE; rw [if_pos h1, hw]; rfl
      rw [e]
      exact rswap6_word P N l qs vr vb i a x w r hc h1 (by simp [isW] at hw; omega)
    · have e : fillE l.length a 1 x = runE l.length a 1 := by unfold fillE; rw [if_neg h1]
      rw [e]
      exact rswap6_adr P N l qs vr vb i a x w r hc h1

set_option maxRecDepth 100000 in
set_option maxHeartbeats 2000000 in
theorem rdo6_store (P : Nat → Prop) (N : Nat) (l : List Int) (qs : List (List (Int × Int))) (vr vb : Value) (i : Nat) (q : List (Int × Int)) (a x : Int) (w : World) (r : RBus w P N l qs vr vb) (hq : qs[i]? = some q) (hP : ∀ b, w.heap.size ≤ b → P b) (hN : 1 ≤ N) :
    Calls Try.prog 14 #[.agg #[vr, vb], opV 0 i a x] w (RBusP P N (stoL N l q a x) (qs.set i (stoQ N l q a x)) (fun b => .tuple #[b, .int .i64 0, .int .i64 (fillE l.length a 1 x)]) w) := by
  unfold opV
  have r := r.off 3
  have hlm := r.size
  have hm := r.most
  have HP' : Hid (∀ b, w.heap.size + 3 ≤ b → Off P w.heap.size 3 b) := Lib.hid (fun b hb => Off.of (hP b (by omega)) (.inr hb))
  obtain ⟨A, k, B, d, rfl, rfl⟩ := r.open_
  obtain ⟨w3, hw3⟩ : ∃ w3, boxD w (.slice A l.length k) (.slice B qs.length d) 0 i a x = w3 := ⟨_, rfl⟩
  have hb3 := boxD_below w (.slice A l.length k) (.slice B qs.length d) 0 i a x
  obtain ⟨r0, r1, r2⟩ := boxD_rows w (.slice A l.length k) (.slice B qs.length d) 0 i a x
  rw [hw3] at hb3 r0 r1 r2
  unfold boxD at hw3
  have rr := r.below hb3
  have RR := Lib.hid rr
  have HB3 := Lib.hid hb3
  have R0 := Lib.hid r0
  have R1 := Lib.hid r1
  have R2 := Lib.hid r2
  have a0 := r0.cell 0
  have a1 := r0.cell 1
  have b0 := r1.cell 0
  have b1 := r1.cell 1
  have b2 := r1.cell 2
  have b3 := r1.cell 3
  have c0 := r2.cell 0
  have c1 := r2.cell 1
  have d0 := r2.soft 0
  have d1 := r2.soft 1
  simp only [List.getElem?_cons_zero, List.getElem?_cons_succ] at a0 a1 b0 b1 b2 b3 c0 c1
  have l3 := r2.lt
  have ct := rstore6_any (Off P w.heap.size 3) N l qs _ _ i q a x w3 rr hq (fun b hb => HP'.out b (by omega)) hN
  obtain ⟨z, hz⟩ : ∃ z, fillE l.length a 1 x = z := ⟨_, rfl⟩
  rw [hz] at ct ⊢
  have CT := Lib.hid ct
  clear ct hz hq hP
  clear r r0 r1 r2 rr hb3
  go_enter Try.func14, Try.ntmps14
  go_wp2_with fail
  refine CT.out.mono ?_
  rintro e w4 ⟨A4, n4, c4, B4, m4', d4, rfl, hr4, hb4⟩
  dsimp only
  have t2 := R2.out.below hb4
  have y0 := t2.cell 0
  have y1 := t2.cell 1
  have f0 := t2.soft 0
  have f1 := t2.soft 1
  simp only [List.getElem?_cons_zero, List.getElem?_cons_succ] at y0 y1
  have l4 := t2.lt
  have m4 : w.heap.size + 1 + 1 ≠ w4.heap.size := by omega
  have HB4 := Lib.hid (below_on HB3.out hb4)
  have R4 := Lib.hid hr4
  clear t2 hr4 hb4 hw3 a0 a1 b0 b1 b2 b3 c0 c1 d0 d1
  go_wp2_with fail
  have hbF := ((HB4.out.setCell (p := ⟨w.heap.size + 1 + 1, 0, none⟩) (by show w.heap.size ≤ w.heap.size + 1 + 1; omega) (.slice A4 n4 c4)).setCell (p := ⟨w.heap.size + 1 + 1, 1, none⟩) (by show w.heap.size ≤ w.heap.size + 1 + 1; omega) (.slice B4 m4' d4))
  exact bodyPost_ret (v := .tuple #[.agg #[.slice A4 n4 c4, .slice B4 m4' d4], .int .i64 0, .int .i64 z]) (by simp [results, Try.results14, go_sem, *]) rfl ⟨_, _, _, _, _, _, rfl, (((R4.out.own (by omega) (by omega) 0 _).own (by omega) (by omega) 1 _).below (below_al _ _)).on, (below_on hbF (below_al _ _))⟩

set_option maxRecDepth 100000 in
set_option maxHeartbeats 2000000 in
theorem rdo6_swap (P : Nat → Prop) (N : Nat) (l : List Int) (qs : List (List (Int × Int))) (vr vb : Value) (i : Nat) (q : List (Int × Int)) (a x : Int) (w : World) (r : RBus w P N l qs vr vb) (hq : qs[i]? = some q) (hP : ∀ b, w.heap.size ≤ b → P b) :
    Calls Try.prog 14 #[.agg #[vr, vb], opV 4 i a x] w (RBusP P N (swL l q a x) (qs.set i (swQ l q a x)) (fun b => .tuple #[b, .int .i64 (swV l q a x), .int .i64 (fillE l.length a 1 x)]) w) := by
  unfold opV
  have r := r.off 3
  have hlm := r.size
  have hm := r.most
  have HP' : Hid (∀ b, w.heap.size + 3 ≤ b → Off P w.heap.size 3 b) := Lib.hid (fun b hb => Off.of (hP b (by omega)) (.inr hb))
  obtain ⟨A, k, B, d, rfl, rfl⟩ := r.open_
  obtain ⟨w3, hw3⟩ : ∃ w3, boxD w (.slice A l.length k) (.slice B qs.length d) 4 i a x = w3 := ⟨_, rfl⟩
  have hb3 := boxD_below w (.slice A l.length k) (.slice B qs.length d) 4 i a x
  obtain ⟨r0, r1, r2⟩ := boxD_rows w (.slice A l.length k) (.slice B qs.length d) 4 i a x
  rw [hw3] at hb3 r0 r1 r2
  unfold boxD at hw3
  have rr := r.below hb3
  have RR := Lib.hid rr
  have HB3 := Lib.hid hb3
  have R0 := Lib.hid r0
  have R1 := Lib.hid r1
  have R2 := Lib.hid r2
  have a0 := r0.cell 0
  have a1 := r0.cell 1
  have b0 := r1.cell 0
  have b1 := r1.cell 1
  have b2 := r1.cell 2
  have b3 := r1.cell 3
  have c0 := r2.cell 0
  have c1 := r2.cell 1
  have d0 := r2.soft 0
  have d1 := r2.soft 1
  simp only [List.getElem?_cons_zero, List.getElem?_cons_succ] at a0 a1 b0 b1 b2 b3 c0 c1
  have l3 := r2.lt
  have ct := rswap6_any (Off P w.heap.size 3) N l qs _ _ i q a x w3 rr hq (fun b hb => HP'.out b (by omega))
  obtain ⟨z, hz⟩ : ∃ z, fillE l.length a 1 x = z := ⟨_, rfl⟩
  obtain ⟨y, hy⟩ : ∃ z, swV l q a x = z := ⟨_, rfl⟩
  rw [hz, hy] at ct
  rw [hz, hy]
  have CT := Lib.hid ct
  clear ct hz hy hq hP
  clear r r0 r1 r2 rr hb3
  go_enter Try.func14, Try.ntmps14
  go_wp2_with fail
  refine CT.out.mono ?_
  rintro e w4 ⟨A4, n4, c4, B4, m4', d4, rfl, hr4, hb4⟩
  dsimp only
  have t2 := R2.out.below hb4
  have y0 := t2.cell 0
  have y1 := t2.cell 1
  have f0 := t2.soft 0
  have f1 := t2.soft 1
  simp only [List.getElem?_cons_zero, List.getElem?_cons_succ] at y0 y1
  have l4 := t2.lt
  have m4 : w.heap.size + 1 + 1 ≠ w4.heap.size := by omega
  have HB4 := Lib.hid (below_on HB3.out hb4)
  have R4 := Lib.hid hr4
  clear t2 hr4 hb4 hw3 a0 a1 b0 b1 b2 b3 c0 c1 d0 d1
  go_wp2_with fail
  have hbF := ((HB4.out.setCell (p := ⟨w.heap.size + 1 + 1, 0, none⟩) (by show w.heap.size ≤ w.heap.size + 1 + 1; omega) (.slice A4 n4 c4)).setCell (p := ⟨w.heap.size + 1 + 1, 1, none⟩) (by show w.heap.size ≤ w.heap.size + 1 + 1; omega) (.slice B4 m4' d4))
  exact bodyPost_ret (v := .tuple #[.agg #[.slice A4 n4 c4, .slice B4 m4' d4], .int .i64 y, .int .i64 z]) (by simp [results, Try.results14, go_sem, *]) rfl ⟨_, _, _, _, _, _, rfl, ((R4.out.own (by omega) (by omega) 0 _).own (by omega) (by omega) 1 _).on, hbF⟩

set_option maxRecDepth 100000 in
set_option maxHeartbeats 2000000 in
theorem rdo6_store_no (P : Nat → Prop) (N : Nat) (l : List Int) (qs : List (List (Int × Int))) (vr vb : Value) (c a x : Int) (w : World) (r : RBus w P N l qs vr vb) (hc : ¬ cIn qs c) (hP : ∀ b, w.heap.size ≤ b → P b) :
    Calls Try.prog 14 #[.agg #[vr, vb], opV 0 c a x] w (RBusP P N (l) (qs) (fun b => .tuple #[b, .int .i64 0, .int .i64 3]) w) := by
  unfold opV
  have r := r.off 3
  have hlm := r.size
  have hm := r.most
  have HP' : Hid (∀ b, w.heap.size + 3 ≤ b → Off P w.heap.size 3 b) := Lib.hid (fun b hb => Off.of (hP b (by omega)) (.inr hb))
  obtain ⟨A, k, B, d, rfl, rfl⟩ := r.open_
  obtain ⟨w3, hw3⟩ : ∃ w3, boxD w (.slice A l.length k) (.slice B qs.length d) 0 c a x = w3 := ⟨_, rfl⟩
  have hb3 := boxD_below w (.slice A l.length k) (.slice B qs.length d) 0 c a x
  obtain ⟨r0, r1, r2⟩ := boxD_rows w (.slice A l.length k) (.slice B qs.length d) 0 c a x
  rw [hw3] at hb3 r0 r1 r2
  unfold boxD at hw3
  have rr := r.below hb3
  have RR := Lib.hid rr
  have HB3 := Lib.hid hb3
  have R0 := Lib.hid r0
  have R1 := Lib.hid r1
  have R2 := Lib.hid r2
  have a0 := r0.cell 0
  have a1 := r0.cell 1
  have b0 := r1.cell 0
  have b1 := r1.cell 1
  have b2 := r1.cell 2
  have b3 := r1.cell 3
  have c0 := r2.cell 0
  have c1 := r2.cell 1
  have d0 := r2.soft 0
  have d1 := r2.soft 1
  simp only [List.getElem?_cons_zero, List.getElem?_cons_succ] at a0 a1 b0 b1 b2 b3 c0 c1
  have l3 := r2.lt
  have ct := rstore6_no (Off P w.heap.size 3) N l qs _ _ c a x w3 rr hc
  have CT := Lib.hid ct
  clear ct hc hP
  clear r r0 r1 r2 rr hb3
  go_enter Try.func14, Try.ntmps14
  go_wp2_with fail
  refine CT.out.mono ?_
  rintro e w4 ⟨A4, n4, c4, B4, m4', d4, rfl, hr4, hb4⟩
  dsimp only
  have t2 := R2.out.below hb4
  have y0 := t2.cell 0
  have y1 := t2.cell 1
  have f0 := t2.soft 0
  have f1 := t2.soft 1
  simp only [List.getElem?_cons_zero, List.getElem?_cons_succ] at y0 y1
  have l4 := t2.lt
  have m4 : w.heap.size + 1 + 1 ≠ w4.heap.size := by omega
  have HB4 := Lib.hid (below_on HB3.out hb4)
  have R4 := Lib.hid hr4
  clear t2 hr4 hb4 hw3 a0 a1 b0 b1 b2 b3 c0 c1 d0 d1
  go_wp2_with fail
  have hbF := ((HB4.out.setCell (p := ⟨w.heap.size + 1 + 1, 0, none⟩) (by show w.heap.size ≤ w.heap.size + 1 + 1; omega) (.slice A4 n4 c4)).setCell (p := ⟨w.heap.size + 1 + 1, 1, none⟩) (by show w.heap.size ≤ w.heap.size + 1 + 1; omega) (.slice B4 m4' d4))
  exact bodyPost_ret (v := .tuple #[.agg #[.slice A4 n4 c4, .slice B4 m4' d4], .int .i64 0, .int .i64 3]) (by simp [results, Try.results14, go_sem, *]) rfl ⟨_, _, _, _, _, _, rfl, (((R4.out.own (by omega) (by omega) 0 _).own (by omega) (by omega) 1 _).below (below_al _ _)).on, (below_on hbF (below_al _ _))⟩

set_option maxRecDepth 100000 in
set_option maxHeartbeats 2000000 in
theorem rdo6_swap_no (P : Nat → Prop) (N : Nat) (l : List Int) (qs : List (List (Int × Int))) (vr vb : Value) (c a x : Int) (w : World) (r : RBus w P N l qs vr vb) (hc : ¬ cIn qs c) (hP : ∀ b, w.heap.size ≤ b → P b) :
    Calls Try.prog 14 #[.agg #[vr, vb], opV 4 c a x] w (RBusP P N (l) (qs) (fun b => .tuple #[b, .int .i64 0, .int .i64 3]) w) := by
  unfold opV
  have r := r.off 3
  have hlm := r.size
  have hm := r.most
  have HP' : Hid (∀ b, w.heap.size + 3 ≤ b → Off P w.heap.size 3 b) := Lib.hid (fun b hb => Off.of (hP b (by omega)) (.inr hb))
  obtain ⟨A, k, B, d, rfl, rfl⟩ := r.open_
  obtain ⟨w3, hw3⟩ : ∃ w3, boxD w (.slice A l.length k) (.slice B qs.length d) 4 c a x = w3 := ⟨_, rfl⟩
  have hb3 := boxD_below w (.slice A l.length k) (.slice B qs.length d) 4 c a x
  obtain ⟨r0, r1, r2⟩ := boxD_rows w (.slice A l.length k) (.slice B qs.length d) 4 c a x
  rw [hw3] at hb3 r0 r1 r2
  unfold boxD at hw3
  have rr := r.below hb3
  have RR := Lib.hid rr
  have HB3 := Lib.hid hb3
  have R0 := Lib.hid r0
  have R1 := Lib.hid r1
  have R2 := Lib.hid r2
  have a0 := r0.cell 0
  have a1 := r0.cell 1
  have b0 := r1.cell 0
  have b1 := r1.cell 1
  have b2 := r1.cell 2
  have b3 := r1.cell 3
  have c0 := r2.cell 0
  have c1 := r2.cell 1
  have d0 := r2.soft 0
  have d1 := r2.soft 1
  simp only [List.getElem?_cons_zero, List.getElem?_cons_succ] at a0 a1 b0 b1 b2 b3 c0 c1
  have l3 := r2.lt
  have ct := rswap6_no (Off P w.heap.size 3) N l qs _ _ c a x w3 rr hc
  have CT := Lib.hid ct
  clear ct hc hP
  clear r r0 r1 r2 rr hb3
  go_enter Try.func14, Try.ntmps14
  go_wp2_with fail
  refine CT.out.mono ?_
  rintro e w4 ⟨A4, n4, c4, B4, m4', d4, rfl, hr4, hb4⟩
  dsimp only
  have t2 := R2.out.below hb4
  have y0 := t2.cell 0
  have y1 := t2.cell 1
  have f0 := t2.soft 0
  have f1 := t2.soft 1
  simp only [List.getElem?_cons_zero, List.getElem?_cons_succ] at y0 y1
  have l4 := t2.lt
  have m4 : w.heap.size + 1 + 1 ≠ w4.heap.size := by omega
  have HB4 := Lib.hid (below_on HB3.out hb4)
  have R4 := Lib.hid hr4
  clear t2 hr4 hb4 hw3 a0 a1 b0 b1 b2 b3 c0 c1 d0 d1
  go_wp2_with fail
  have hbF := ((HB4.out.setCell (p := ⟨w.heap.size + 1 + 1, 0, none⟩) (by show w.heap.size ≤ w.heap.size + 1 + 1; omega) (.slice A4 n4 c4)).setCell (p := ⟨w.heap.size + 1 + 1, 1, none⟩) (by show w.heap.size ≤ w.heap.size + 1 + 1; omega) (.slice B4 m4' d4))
  exact bodyPost_ret (v := .tuple #[.agg #[.slice A4 n4 c4, .slice B4 m4' d4], .int .i64 0, .int .i64 3]) (by simp [results, Try.results14, go_sem, *]) rfl ⟨_, _, _, _, _, _, rfl, ((R4.out.own (by omega) (by omega) 0 _).own (by omega) (by omega) 1 _).on, hbF⟩

set_option maxRecDepth 100000 in
set_option maxHeartbeats 2000000 in
theorem rdo6_no2 (P : Nat → Prop) (N : Nat) (l : List Int) (qs : List (List (Int × Int))) (vr vb : Value) (c a x : Int) (w : World) (r : RBus w P N l qs vr vb) (hc : ¬ cIn qs c) (hP : ∀ b, w.heap.size ≤ b → P b) :
    Calls Try.prog 14 #[.agg #[vr, vb], opV 2 c a x] w (RBusP P N (l) (qs) (fun b => .tuple #[b, .int .i64 0, .int .i64 3]) w) := by
  unfold opV
  have r := r.off 3
  have hlm := r.size
  have hm := r.most
  have HP' : Hid (∀ b, w.heap.size + 3 ≤ b → Off P w.heap.size 3 b) := Lib.hid (fun b hb => Off.of (hP b (by omega)) (.inr hb))
  obtain ⟨A, k, B, d, rfl, rfl⟩ := r.open_
  obtain ⟨w3, hw3⟩ : ∃ w3, boxD w (.slice A l.length k) (.slice B qs.length d) 2 c a x = w3 := ⟨_, rfl⟩
  have hb3 := boxD_below w (.slice A l.length k) (.slice B qs.length d) 2 c a x
  obtain ⟨r0, r1, r2⟩ := boxD_rows w (.slice A l.length k) (.slice B qs.length d) 2 c a x
  rw [hw3] at hb3 r0 r1 r2
  unfold boxD at hw3
  have rr := r.below hb3
  have RR := Lib.hid rr
  have HB3 := Lib.hid hb3
  have R0 := Lib.hid r0
  have R1 := Lib.hid r1
  have R2 := Lib.hid r2
  have a0 := r0.cell 0
  have a1 := r0.cell 1
  have b0 := r1.cell 0
  have b1 := r1.cell 1
  have b2 := r1.cell 2
  have b3 := r1.cell 3
  have c0 := r2.cell 0
  have c1 := r2.cell 1
  have d0 := r2.soft 0
  have d1 := r2.soft 1
  simp only [List.getElem?_cons_zero, List.getElem?_cons_succ] at a0 a1 b0 b1 b2 b3 c0 c1
  have l3 := r2.lt
  have ct := rwrong_core (Off P w.heap.size 3) N l qs _ _ c 0 w3 rr hc
  have CT := Lib.hid ct
  clear ct hc hP
  clear r r0 r1 r2 rr hb3
  go_enter Try.func14, Try.ntmps14
  go_wp2_with fail
  refine CT.out.mono ?_
  rintro e w4 ⟨rfl, hb4⟩
  have t2 := R2.out.below hb4
  have y0 := t2.cell 0
  have y1 := t2.cell 1
  have f0 := t2.soft 0
  have f1 := t2.soft 1
  simp only [List.getElem?_cons_zero, List.getElem?_cons_succ] at y0 y1
  have l4 := t2.lt
  have m4 : w.heap.size + 1 + 1 ≠ w4.heap.size := by omega
  have HB4 := Lib.hid (below_on HB3.out hb4)
  have t0 := R0.out.below hb4
  have z0 := t0.cell 0
  have z1 := t0.cell 1
  simp only [List.getElem?_cons_zero, List.getElem?_cons_succ] at z0 z1
  have R4 := Lib.hid (RR.out.below hb4)
  clear t0 t2 hb4 hw3 a0 a1 b0 b1 b2 b3 c0 c1 d0 d1
  go_wp2_with fail
  have hbF := ((HB4.out.setCell (p := ⟨w.heap.size + 1 + 1, 0, none⟩) (by show w.heap.size ≤ w.heap.size + 1 + 1; omega) (.slice A l.length k)).setCell (p := ⟨w.heap.size + 1 + 1, 1, none⟩) (by show w.heap.size ≤ w.heap.size + 1 + 1; omega) (.slice B qs.length d))
  exact bodyPost_ret (v := .tuple #[.agg #[.slice A l.length k, .slice B qs.length d], .int .i64 0, .int .i64 3]) (by simp [results, Try.results14, go_sem, *]) rfl ⟨_, _, _, _, _, _, rfl, ((R4.out.own (by omega) (by omega) 0 _).own (by omega) (by omega) 1 _).on, hbF⟩

set_option maxRecDepth 100000 in
set_option maxHeartbeats 2000000 in
theorem rdo6_no3 (P : Nat → Prop) (N : Nat) (l : List Int) (qs : List (List (Int × Int))) (vr vb : Value) (c a x : Int) (w : World) (r : RBus w P N l qs vr vb) (hc : ¬ cIn qs c) (hP : ∀ b, w.heap.size ≤ b → P b) :
    Calls Try.prog 14 #[.agg #[vr, vb], opV 3 c a x] w (RBusP P N (l) (qs) (fun b => .tuple #[b, .int .i64 0, .int .i64 3]) w) := by
  unfold opV
  have r := r.off 3
  have hlm := r.size
  have hm := r.most
  have HP' : Hid (∀ b, w.heap.size + 3 ≤ b → Off P w.heap.size 3 b) := Lib.hid (fun b hb => Off.of (hP b (by omega)) (.inr hb))
  obtain ⟨A, k, B, d, rfl, rfl⟩ := r.open_
  obtain ⟨w3, hw3⟩ : ∃ w3, boxD w (.slice A l.length k) (.slice B qs.length d) 3 c a x = w3 := ⟨_, rfl⟩
  have hb3 := boxD_below w (.slice A l.length k) (.slice B qs.length d) 3 c a x
  obtain ⟨r0, r1, r2⟩ := boxD_rows w (.slice A l.length k) (.slice B qs.length d) 3 c a x
  rw [hw3] at hb3 r0 r1 r2
  unfold boxD at hw3
  have rr := r.below hb3
  have RR := Lib.hid rr
  have HB3 := Lib.hid hb3
  have R0 := Lib.hid r0
  have R1 := Lib.hid r1
  have R2 := Lib.hid r2
  have a0 := r0.cell 0
  have a1 := r0.cell 1
  have b0 := r1.cell 0
  have b1 := r1.cell 1
  have b2 := r1.cell 2
  have b3 := r1.cell 3
  have c0 := r2.cell 0
  have c1 := r2.cell 1
  have d0 := r2.soft 0
  have d1 := r2.soft 1
  simp only [List.getElem?_cons_zero, List.getElem?_cons_succ] at a0 a1 b0 b1 b2 b3 c0 c1
  have l3 := r2.lt
  have ct := rwrong_core (Off P w.heap.size 3) N l qs _ _ c 0 w3 rr hc
  have CT := Lib.hid ct
  clear ct hc hP
  clear r r0 r1 r2 rr hb3
  go_enter Try.func14, Try.ntmps14
  go_wp2_with fail
  refine CT.out.mono ?_
  rintro e w4 ⟨rfl, hb4⟩
  have t2 := R2.out.below hb4
  have y0 := t2.cell 0
  have y1 := t2.cell 1
  have f0 := t2.soft 0
  have f1 := t2.soft 1
  simp only [List.getElem?_cons_zero, List.getElem?_cons_succ] at y0 y1
  have l4 := t2.lt
  have m4 : w.heap.size + 1 + 1 ≠ w4.heap.size := by omega
  have HB4 := Lib.hid (below_on HB3.out hb4)
  have t0 := R0.out.below hb4
  have z0 := t0.cell 0
  have z1 := t0.cell 1
  simp only [List.getElem?_cons_zero, List.getElem?_cons_succ] at z0 z1
  have R4 := Lib.hid (RR.out.below hb4)
  clear t0 t2 hb4 hw3 a0 a1 b0 b1 b2 b3 c0 c1 d0 d1
  go_wp2_with fail
  have hbF := ((HB4.out.setCell (p := ⟨w.heap.size + 1 + 1, 0, none⟩) (by show w.heap.size ≤ w.heap.size + 1 + 1; omega) (.slice A l.length k)).setCell (p := ⟨w.heap.size + 1 + 1, 1, none⟩) (by show w.heap.size ≤ w.heap.size + 1 + 1; omega) (.slice B qs.length d))
  exact bodyPost_ret (v := .tuple #[.agg #[.slice A l.length k, .slice B qs.length d], .int .i64 0, .int .i64 3]) (by simp [results, Try.results14, go_sem, *]) rfl ⟨_, _, _, _, _, _, rfl, ((R4.out.own (by omega) (by omega) 0 _).own (by omega) (by omega) 1 _).on, hbF⟩

set_option maxRecDepth 100000 in
set_option maxHeartbeats 2000000 in
theorem rdo6_no5 (P : Nat → Prop) (N : Nat) (l : List Int) (qs : List (List (Int × Int))) (vr vb : Value) (c a x : Int) (w : World) (r : RBus w P N l qs vr vb) (hc : ¬ cIn qs c) (hP : ∀ b, w.heap.size ≤ b → P b) :
    Calls Try.prog 14 #[.agg #[vr, vb], opV 5 c a x] w (RBusP P N (l) (qs) (fun b => .tuple #[b, .int .i64 0, .int .i64 3]) w) := by
  unfold opV
  have r := r.off 3
  have hlm := r.size
  have hm := r.most
  have HP' : Hid (∀ b, w.heap.size + 3 ≤ b → Off P w.heap.size 3 b) := Lib.hid (fun b hb => Off.of (hP b (by omega)) (.inr hb))
  obtain ⟨A, k, B, d, rfl, rfl⟩ := r.open_
  obtain ⟨w3, hw3⟩ : ∃ w3, boxD w (.slice A l.length k) (.slice B qs.length d) 5 c a x = w3 := ⟨_, rfl⟩
  have hb3 := boxD_below w (.slice A l.length k) (.slice B qs.length d) 5 c a x
  obtain ⟨r0, r1, r2⟩ := boxD_rows w (.slice A l.length k) (.slice B qs.length d) 5 c a x
  rw [hw3] at hb3 r0 r1 r2
  unfold boxD at hw3
  have rr := r.below hb3
  have RR := Lib.hid rr
  have HB3 := Lib.hid hb3
  have R0 := Lib.hid r0
  have R1 := Lib.hid r1
  have R2 := Lib.hid r2
  have a0 := r0.cell 0
  have a1 := r0.cell 1
  have b0 := r1.cell 0
  have b1 := r1.cell 1
  have b2 := r1.cell 2
  have b3 := r1.cell 3
  have c0 := r2.cell 0
  have c1 := r2.cell 1
  have d0 := r2.soft 0
  have d1 := r2.soft 1
  simp only [List.getElem?_cons_zero, List.getElem?_cons_succ] at a0 a1 b0 b1 b2 b3 c0 c1
  have l3 := r2.lt
  have ct := rwrong_core (Off P w.heap.size 3) N l qs _ _ c 0 w3 rr hc
  have CT := Lib.hid ct
  clear ct hc hP
  clear r r0 r1 r2 rr hb3
  go_enter Try.func14, Try.ntmps14
  go_wp2_with fail
  refine CT.out.mono ?_
  rintro e w4 ⟨rfl, hb4⟩
  have t2 := R2.out.below hb4
  have y0 := t2.cell 0
  have y1 := t2.cell 1
  have f0 := t2.soft 0
  have f1 := t2.soft 1
  simp only [List.getElem?_cons_zero, List.getElem?_cons_succ] at y0 y1
  have l4 := t2.lt
  have m4 : w.heap.size + 1 + 1 ≠ w4.heap.size := by omega
  have HB4 := Lib.hid (below_on HB3.out hb4)
  have t0 := R0.out.below hb4
  have z0 := t0.cell 0
  have z1 := t0.cell 1
  simp only [List.getElem?_cons_zero, List.getElem?_cons_succ] at z0 z1
  have R4 := Lib.hid (RR.out.below hb4)
  clear t0 t2 hb4 hw3 a0 a1 b0 b1 b2 b3 c0 c1 d0 d1
  go_wp2_with fail
  have hbF := ((HB4.out.setCell (p := ⟨w.heap.size + 1 + 1, 0, none⟩) (by show w.heap.size ≤ w.heap.size + 1 + 1; omega) (.slice A l.length k)).setCell (p := ⟨w.heap.size + 1 + 1, 1, none⟩) (by show w.heap.size ≤ w.heap.size + 1 + 1; omega) (.slice B qs.length d))
  exact bodyPost_ret (v := .tuple #[.agg #[.slice A l.length k, .slice B qs.length d], .int .i64 0, .int .i64 3]) (by simp [results, Try.results14, go_sem, *]) rfl ⟨_, _, _, _, _, _, rfl, ((R4.out.own (by omega) (by omega) 0 _).own (by omega) (by omega) 1 _).on, hbF⟩

set_option maxRecDepth 100000 in
set_option maxHeartbeats 2000000 in
theorem rdo6_drain (P : Nat → Prop) (N : Nat) (l : List Int) (qs : List (List (Int × Int))) (vr vb : Value) (i : Nat) (q : List (Int × Int)) (a x : Int) (w : World) (r : RBus w P N l qs vr vb) (hq : qs[i]? = some q) (hP : ∀ b, w.heap.size ≤ b → P b) (hl1 : 1 ≤ l.length) :
    Calls Try.prog 14 #[.agg #[vr, vb], opV 2 i a x] w (RBusP P N (drs l (q.take 1)) (qs.set i (q.drop 1)) (fun b => .tuple #[b, .int .i64 (if anyB q = true then 1 else 0), .int .i64 0]) w) := by
  unfold opV
  have r := r.off 3
  have hlm := r.size
  have hm := r.most
  have HP' : Hid (∀ b, w.heap.size + 3 ≤ b → Off P w.heap.size 3 b) := Lib.hid (fun b hb => Off.of (hP b (by omega)) (.inr hb))
  obtain ⟨A, k, B, d, rfl, rfl⟩ := r.open_
  obtain ⟨w3, hw3⟩ : ∃ w3, boxD w (.slice A l.length k) (.slice B qs.length d) 2 i a x = w3 := ⟨_, rfl⟩
  have hb3 := boxD_below w (.slice A l.length k) (.slice B qs.length d) 2 i a x
  obtain ⟨r0, r1, r2⟩ := boxD_rows w (.slice A l.length k) (.slice B qs.length d) 2 i a x
  rw [hw3] at hb3 r0 r1 r2
  unfold boxD at hw3
  have rr := r.below hb3
  have RR := Lib.hid rr
  have HB3 := Lib.hid hb3
  have R0 := Lib.hid r0
  have R1 := Lib.hid r1
  have R2 := Lib.hid r2
  have a0 := r0.cell 0
  have a1 := r0.cell 1
  have b0 := r1.cell 0
  have b1 := r1.cell 1
  have b2 := r1.cell 2
  have b3 := r1.cell 3
  have c0 := r2.cell 0
  have c1 := r2.cell 1
  have d0 := r2.soft 0
  have d1 := r2.soft 1
  simp only [List.getElem?_cons_zero, List.getElem?_cons_succ] at a0 a1 b0 b1 b2 b3 c0 c1
  have l3 := r2.lt
  have hi := lt_of_at hq
  have wt := rwrong_ok (Off P w.heap.size 3) N l qs _ _ i 0 w3 rr ⟨by omega, by omega⟩
  rw [runE_one (by omega) (by omega)] at wt
  have WT := Lib.hid wt
  have ct := fun W (hb : Below w3.heap.size w3 W) => rdrain6_any (Off P w.heap.size 3) N l qs _ _ i q W (rr.below hb) hq (fun b hb' => HP'.out b (by have := hb.size; omega))
  by_cases hany : anyB q = true
  · rw [if_pos hany]
    rw [hany] at ct
    have CT := Lib.hid ct
    clear ct hq hP hany wt
    clear r r0 r1 r2 rr hb3
    go_enter Try.func14, Try.ntmps14
    go_wp2_with fail
    refine WT.out.mono ?_
    rintro e w5 ⟨rfl, hb5⟩
    have t0 := R0.out.below hb5
    have t1 := R1.out.below hb5
    have z0 := t0.cell 0
    have z1 := t0.cell 1
    have q0 := t1.cell 0
    have q1 := t1.cell 1
    simp only [List.getElem?_cons_zero, List.getElem?_cons_succ] at z0 z1 q0 q1
    have HB5 := Lib.hid hb5
    clear t0 t1 hb5 hw3 a0 a1 b0 b1 b2 b3 c0 c1 d0 d1
    go_wp2_with fail
    refine (CT.out _ HB5.out).mono ?_
    rintro e w4 ⟨A4, n4, c4, B4, m4', d4, rfl, hr4, hb4⟩
    dsimp only
    have t2 := (R2.out.below HB5.out).below hb4
    have y0 := t2.cell 0
    have y1 := t2.cell 1
    have f0 := t2.soft 0
    have f1 := t2.soft 1
    simp only [List.getElem?_cons_zero, List.getElem?_cons_succ] at y0 y1
    have l4 := t2.lt
    have m4 : w.heap.size + 1 + 1 ≠ w4.heap.size := by omega
    have HB4 := Lib.hid (below_on (below_on HB3.out HB5.out) hb4)
    have R4 := Lib.hid hr4
    clear t2 hr4 hb4
    go_wp2_with fail
    have hbF := ((HB4.out.setCell (p := ⟨w.heap.size + 1 + 1, 0, none⟩) (by show w.heap.size ≤ w.heap.size + 1 + 1; omega) (.slice A4 n4 c4)).setCell (p := ⟨w.heap.size + 1 + 1, 1, none⟩) (by show w.heap.size ≤ w.heap.size + 1 + 1; omega) (.slice B4 m4' d4))
    exact bodyPost_ret (v := .tuple #[.agg #[.slice A4 n4 c4, .slice B4 m4' d4], .int .i64 1, .int .i64 0]) (by simp [results, Try.results14, go_sem, *]) rfl ⟨_, _, _, _, _, _, rfl, (((R4.out.own (by omega) (by omega) 0 _).own (by omega) (by omega) 1 _).below (below_al _ _)).on, (below_on hbF (below_al _ _))⟩
  · have hany' : anyB q = false := by simpa using hany
    rw [if_neg hany]
    rw [hany'] at ct
    have CT := Lib.hid ct
    clear ct hq hP hany hany' wt
    clear r r0 r1 r2 rr hb3
    go_enter Try.func14, Try.ntmps14
    go_wp2_with fail
    refine WT.out.mono ?_
    rintro e w5 ⟨rfl, hb5⟩
    have t0 := R0.out.below hb5
    have t1 := R1.out.below hb5
    have z0 := t0.cell 0
    have z1 := t0.cell 1
    have q0 := t1.cell 0
    have q1 := t1.cell 1
    simp only [List.getElem?_cons_zero, List.getElem?_cons_succ] at z0 z1 q0 q1
    have HB5 := Lib.hid hb5
    clear t0 t1 hb5 hw3 a0 a1 b0 b1 b2 b3 c0 c1 d0 d1
    go_wp2_with fail
    refine (CT.out _ HB5.out).mono ?_
    rintro e w4 ⟨A4, n4, c4, B4, m4', d4, rfl, hr4, hb4⟩
    dsimp only
    have t2 := (R2.out.below HB5.out).below hb4
    have y0 := t2.cell 0
    have y1 := t2.cell 1
    have f0 := t2.soft 0
    have f1 := t2.soft 1
    simp only [List.getElem?_cons_zero, List.getElem?_cons_succ] at y0 y1
    have l4 := t2.lt
    have m4 : w.heap.size + 1 + 1 ≠ w4.heap.size := by omega
    have HB4 := Lib.hid (below_on (below_on HB3.out HB5.out) hb4)
    have R4 := Lib.hid hr4
    clear t2 hr4 hb4
    go_wp2_with fail
    have hbF := ((HB4.out.setCell (p := ⟨w.heap.size + 1 + 1, 0, none⟩) (by show w.heap.size ≤ w.heap.size + 1 + 1; omega) (.slice A4 n4 c4)).setCell (p := ⟨w.heap.size + 1 + 1, 1, none⟩) (by show w.heap.size ≤ w.heap.size + 1 + 1; omega) (.slice B4 m4' d4))
    exact bodyPost_ret (v := .tuple #[.agg #[.slice A4 n4 c4, .slice B4 m4' d4], .int .i64 0, .int .i64 0]) (by simp [results, Try.results14, go_sem, *]) rfl ⟨_, _, _, _, _, _, rfl, (((R4.out.own (by omega) (by omega) 0 _).own (by omega) (by omega) 1 _).below (below_al _ _)).on, (below_on hbF (below_al _ _))⟩

set_option maxRecDepth 100000 in
set_option maxHeartbeats 2000000 in
theorem rdo6_fence (P : Nat → Prop) (N : Nat) (l : List Int) (qs : List (List (Int × Int))) (vr vb : Value) (i : Nat) (q : List (Int × Int)) (a x : Int) (w : World) (r : RBus w P N l qs vr vb) (hq : qs[i]? = some q) (hP : ∀ b, w.heap.size ≤ b → P b) (hl1 : 1 ≤ l.length) :
    Calls Try.prog 14 #[.agg #[vr, vb], opV 3 i a x] w (RBusP P N (drs l q) (qs.set i []) (fun b => .tuple #[b, .int .i64 q.length, .int .i64 0]) w) := by
  unfold opV
  have r := r.off 3
  have hlm := r.size
  have hm := r.most
  have HP' : Hid (∀ b, w.heap.size + 3 ≤ b → Off P w.heap.size 3 b) := Lib.hid (fun b hb => Off.of (hP b (by omega)) (.inr hb))
  obtain ⟨A, k, B, d, rfl, rfl⟩ := r.open_
  obtain ⟨w3, hw3⟩ : ∃ w3, boxD w (.slice A l.length k) (.slice B qs.length d) 3 i a x = w3 := ⟨_, rfl⟩
  have hb3 := boxD_below w (.slice A l.length k) (.slice B qs.length d) 3 i a x
  obtain ⟨r0, r1, r2⟩ := boxD_rows w (.slice A l.length k) (.slice B qs.length d) 3 i a x
  rw [hw3] at hb3 r0 r1 r2
  unfold boxD at hw3
  have rr := r.below hb3
  have RR := Lib.hid rr
  have HB3 := Lib.hid hb3
  have R0 := Lib.hid r0
  have R1 := Lib.hid r1
  have R2 := Lib.hid r2
  have a0 := r0.cell 0
  have a1 := r0.cell 1
  have b0 := r1.cell 0
  have b1 := r1.cell 1
  have b2 := r1.cell 2
  have b3 := r1.cell 3
  have c0 := r2.cell 0
  have c1 := r2.cell 1
  have d0 := r2.soft 0
  have d1 := r2.soft 1
  simp only [List.getElem?_cons_zero, List.getElem?_cons_succ] at a0 a1 b0 b1 b2 b3 c0 c1
  have l3 := r2.lt
  have hi := lt_of_at hq
  have wt := rwrong_ok (Off P w.heap.size 3) N l qs _ _ i 0 w3 rr ⟨by omega, by omega⟩
  rw [runE_one (by omega) (by omega)] at wt
  have WT := Lib.hid wt
  have ct := fun W (hb : Below w3.heap.size w3 W) => rfence6_any (Off P w.heap.size 3) N l qs _ _ i q W (rr.below hb) hq (fun b hb' => HP'.out b (by have := hb.size; omega))
  obtain ⟨z, hz⟩ : ∃ z, q.length = z := ⟨_, rfl⟩
  rw [hz] at ct ⊢
  have CT := Lib.hid ct
  clear ct hz hq hP wt
  clear r r0 r1 r2 rr hb3
  go_enter Try.func14, Try.ntmps14
  go_wp2_with fail
  refine WT.out.mono ?_
  rintro e w5 ⟨rfl, hb5⟩
  have t0 := R0.out.below hb5
  have t1 := R1.out.below hb5
  have z0 := t0.cell 0
  have z1 := t0.cell 1
  have q0 := t1.cell 0
  have q1 := t1.cell 1
  simp only [List.getElem?_cons_zero, List.getElem?_cons_succ] at z0 z1 q0 q1
  have HB5 := Lib.hid hb5
  clear t0 t1 hb5 hw3 a0 a1 b0 b1 b2 b3 c0 c1 d0 d1
  go_wp2_with fail
  refine (CT.out _ HB5.out).mono ?_
  rintro e w4 ⟨A4, n4, c4, B4, m4', d4, rfl, hr4, hb4⟩
  dsimp only
  have t2 := (R2.out.below HB5.out).below hb4
  have y0 := t2.cell 0
  have y1 := t2.cell 1
  have f0 := t2.soft 0
  have f1 := t2.soft 1
  simp only [List.getElem?_cons_zero, List.getElem?_cons_succ] at y0 y1
  have l4 := t2.lt
  have m4 : w.heap.size + 1 + 1 ≠ w4.heap.size := by omega
  have HB4 := Lib.hid (below_on (below_on HB3.out HB5.out) hb4)
  have R4 := Lib.hid hr4
  clear t2 hr4 hb4
  go_wp2_with fail
  have hbF := ((HB4.out.setCell (p := ⟨w.heap.size + 1 + 1, 0, none⟩) (by show w.heap.size ≤ w.heap.size + 1 + 1; omega) (.slice A4 n4 c4)).setCell (p := ⟨w.heap.size + 1 + 1, 1, none⟩) (by show w.heap.size ≤ w.heap.size + 1 + 1; omega) (.slice B4 m4' d4))
  exact bodyPost_ret (v := .tuple #[.agg #[.slice A4 n4 c4, .slice B4 m4' d4], .int .i64 z, .int .i64 0]) (by simp [results, Try.results14, go_sem, *]) rfl ⟨_, _, _, _, _, _, rfl, (((R4.out.own (by omega) (by omega) 0 _).own (by omega) (by omega) 1 _).below (below_al _ _)).on, (below_on hbF (below_al _ _))⟩

set_option maxRecDepth 100000 in
set_option maxHeartbeats 2000000 in
theorem rdo6_load_ok (P : Nat → Prop) (N : Nat) (l : List Int) (qs : List (List (Int × Int))) (vr vb : Value) (K : Int) (h0 : K ≠ 0) (h2 : K ≠ 2) (h3 : K ≠ 3) (h4 : K ≠ 4) (h5 : K ≠ 5) (i : Nat) (q : List (Int × Int)) (a x : Int) (w : World) (r : RBus w P N l qs vr vb) (hq : qs[i]? = some q) (hP : ∀ b, w.heap.size ≤ b → P b) :
    Calls Try.prog 14 #[.agg #[vr, vb], opV K i a x] w (RBusP P N (l) (qs) (fun b => .tuple #[b, .int .i64 (rldV l q a), .int .i64 (runE l.length a 1)]) w) := by
  unfold opV
  have r := r.off 3
  have hlm := r.size
  have hm := r.most
  have HP' : Hid (∀ b, w.heap.size + 3 ≤ b → Off P w.heap.size 3 b) := Lib.hid (fun b hb => Off.of (hP b (by omega)) (.inr hb))
  obtain ⟨A, k, B, d, rfl, rfl⟩ := r.open_
  obtain ⟨w3, hw3⟩ : ∃ w3, boxD w (.slice A l.length k) (.slice B qs.length d) K i a x = w3 := ⟨_, rfl⟩
  have hb3 := boxD_below w (.slice A l.length k) (.slice B qs.length d) K i a x
  obtain ⟨r0, r1, r2⟩ := boxD_rows w (.slice A l.length k) (.slice B qs.length d) K i a x
  rw [hw3] at hb3 r0 r1 r2
  unfold boxD at hw3
  have rr := r.below hb3
  have RR := Lib.hid rr
  have HB3 := Lib.hid hb3
  have R0 := Lib.hid r0
  have R1 := Lib.hid r1
  have R2 := Lib.hid r2
  have a0 := r0.cell 0
  have a1 := r0.cell 1
  have b0 := r1.cell 0
  have b1 := r1.cell 1
  have b2 := r1.cell 2
  have b3 := r1.cell 3
  have c0 := r2.cell 0
  have c1 := r2.cell 1
  have d0 := r2.soft 0
  have d1 := r2.soft 1
  simp only [List.getElem?_cons_zero, List.getElem?_cons_succ] at a0 a1 b0 b1 b2 b3 c0 c1
  have l3 := r2.lt
  have b0' : (K == 0) = false := by simpa using h0
  have b2' : (K == 2) = false := by simpa using h2
  have b3' : (K == 3) = false := by simpa using h3
  have b4' : (K == 4) = false := by simpa using h4
  have b5' : (K == 5) = false := by simpa using h5
  clear h0 h2 h3 h4 h5
  have ct := rload6_ok (Off P w.heap.size 3) N l qs _ _ i q a w3 rr hq
  obtain ⟨y, hy⟩ : ∃ z, rldV l q a = z := ⟨_, rfl⟩
  obtain ⟨z, hz⟩ : ∃ z, runE l.length a 1 = z := ⟨_, rfl⟩
  rw [hy, hz] at ct
  rw [hy, hz]
  clear hy hz hq
  have CT := Lib.hid ct
  clear ct hP
  clear r r0 r1 r2 rr hb3
  go_enter Try.func14, Try.ntmps14
  go_wp2_with fail
  refine CT.out.mono ?_
  rintro e w4 ⟨rfl, hb4⟩
  have t2 := R2.out.below hb4
  have y0 := t2.cell 0
  have y1 := t2.cell 1
  have f0 := t2.soft 0
  have f1 := t2.soft 1
  simp only [List.getElem?_cons_zero, List.getElem?_cons_succ] at y0 y1
  have l4 := t2.lt
  have m4 : w.heap.size + 1 + 1 ≠ w4.heap.size := by omega
  have HB4 := Lib.hid (below_on HB3.out hb4)
  have t0 := R0.out.below hb4
  have z0 := t0.cell 0
  have z1 := t0.cell 1
  simp only [List.getElem?_cons_zero, List.getElem?_cons_succ] at z0 z1
  have R4 := Lib.hid (RR.out.below hb4)
  clear t0 t2 hb4 hw3 a0 a1 b0 b1 b2 b3 c0 c1 d0 d1
  go_wp2_with fail
  have hbF := ((HB4.out.setCell (p := ⟨w.heap.size + 1 + 1, 0, none⟩) (by show w.heap.size ≤ w.heap.size + 1 + 1; omega) (.slice A l.length k)).setCell (p := ⟨w.heap.size + 1 + 1, 1, none⟩) (by show w.heap.size ≤ w.heap.size + 1 + 1; omega) (.slice B qs.length d))
  exact bodyPost_ret (v := .tuple #[.agg #[.slice A l.length k, .slice B qs.length d], .int .i64 y, .int .i64 z]) (by simp [results, Try.results14, go_sem, *]) rfl ⟨_, _, _, _, _, _, rfl, ((R4.out.own (by omega) (by omega) 0 _).own (by omega) (by omega) 1 _).on, hbF⟩

set_option maxRecDepth 100000 in
set_option maxHeartbeats 2000000 in
theorem rdo6_load_no (P : Nat → Prop) (N : Nat) (l : List Int) (qs : List (List (Int × Int))) (vr vb : Value) (K : Int) (h0 : K ≠ 0) (h2 : K ≠ 2) (h3 : K ≠ 3) (h4 : K ≠ 4) (h5 : K ≠ 5) (c a x : Int) (w : World) (r : RBus w P N l qs vr vb) (hc : ¬ cIn qs c) (hP : ∀ b, w.heap.size ≤ b → P b) :
    Calls Try.prog 14 #[.agg #[vr, vb], opV K c a x] w (RBusP P N (l) (qs) (fun b => .tuple #[b, .int .i64 0, .int .i64 3]) w) := by
  unfold opV
  have r := r.off 3
  have hlm := r.size
  have hm := r.most
  have HP' : Hid (∀ b, w.heap.size + 3 ≤ b → Off P w.heap.size 3 b) := Lib.hid (fun b hb => Off.of (hP b (by omega)) (.inr hb))
  obtain ⟨A, k, B, d, rfl, rfl⟩ := r.open_
  obtain ⟨w3, hw3⟩ : ∃ w3, boxD w (.slice A l.length k) (.slice B qs.length d) K c a x = w3 := ⟨_, rfl⟩
  have hb3 := boxD_below w (.slice A l.length k) (.slice B qs.length d) K c a x
  obtain ⟨r0, r1, r2⟩ := boxD_rows w (.slice A l.length k) (.slice B qs.length d) K c a x
  rw [hw3] at hb3 r0 r1 r2
  unfold boxD at hw3
  have rr := r.below hb3
  have RR := Lib.hid rr
  have HB3 := Lib.hid hb3
  have R0 := Lib.hid r0
  have R1 := Lib.hid r1
  have R2 := Lib.hid r2
  have a0 := r0.cell 0
  have a1 := r0.cell 1
  have b0 := r1.cell 0
  have b1 := r1.cell 1
  have b2 := r1.cell 2
  have b3 := r1.cell 3
  have c0 := r2.cell 0
  have c1 := r2.cell 1
  have d0 := r2.soft 0
  have d1 := r2.soft 1
  simp only [List.getElem?_cons_zero, List.getElem?_cons_succ] at a0 a1 b0 b1 b2 b3 c0 c1
  have l3 := r2.lt
  have b0' : (K == 0) = false := by simpa using h0
  have b2' : (K == 2) = false := by simpa using h2
  have b3' : (K == 3) = false := by simpa using h3
  have b4' : (K == 4) = false := by simpa using h4
  have b5' : (K == 5) = false := by simpa using h5
  clear h0 h2 h3 h4 h5
  have ct := rload6_no (Off P w.heap.size 3) N l qs _ _ c a w3 rr hc
  clear hc
  have CT := Lib.hid ct
  clear ct hP
  clear r r0 r1 r2 rr hb3
  go_enter Try.func14, Try.ntmps14
  go_wp2_with fail
  refine CT.out.mono ?_
  rintro e w4 ⟨rfl, hb4⟩
  have t2 := R2.out.below hb4
  have y0 := t2.cell 0
  have y1 := t2.cell 1
  have f0 := t2.soft 0
  have f1 := t2.soft 1
  simp only [List.getElem?_cons_zero, List.getElem?_cons_succ] at y0 y1
  have l4 := t2.lt
  have m4 : w.heap.size + 1 + 1 ≠ w4.heap.size := by omega
  have HB4 := Lib.hid (below_on HB3.out hb4)
  have t0 := R0.out.below hb4
  have z0 := t0.cell 0
  have z1 := t0.cell 1
  simp only [List.getElem?_cons_zero, List.getElem?_cons_succ] at z0 z1
  have R4 := Lib.hid (RR.out.below hb4)
  clear t0 t2 hb4 hw3 a0 a1 b0 b1 b2 b3 c0 c1 d0 d1
  go_wp2_with fail
  have hbF := ((HB4.out.setCell (p := ⟨w.heap.size + 1 + 1, 0, none⟩) (by show w.heap.size ≤ w.heap.size + 1 + 1; omega) (.slice A l.length k)).setCell (p := ⟨w.heap.size + 1 + 1, 1, none⟩) (by show w.heap.size ≤ w.heap.size + 1 + 1; omega) (.slice B qs.length d))
  exact bodyPost_ret (v := .tuple #[.agg #[.slice A l.length k, .slice B qs.length d], .int .i64 0, .int .i64 3]) (by simp [results, Try.results14, go_sem, *]) rfl ⟨_, _, _, _, _, _, rfl, ((R4.out.own (by omega) (by omega) 0 _).own (by omega) (by omega) 1 _).on, hbF⟩

#print axioms rdo6_store
#print axioms rdo6_drain
#print axioms rdo6_load_ok
end Go.Proofs.Ytgoogclcpnfmkaa
