/-
  The reference of layer 6: Drain, Fence.
  Conditions: those that each theorem states.
-/
import Derived.Test.YtgoogclcpnfmkaaRBus2
namespace Go.Proofs.Ytgoogclcpnfmkaa
open Go.ChangeShapes Go.WideShapes Go.ChangeAt Go.RowKit

/-- Blocks that P allows, but none of the k blocks from s on. -/
def Off (P : Nat → Prop) (s k : Nat) (b : Nat) : Prop := P b ∧ ¬ (s ≤ b ∧ b < s + k)
theorem Off.of {P : Nat → Prop} {s k b : Nat} (h : P b) (hb : b < s ∨ s + k ≤ b) : Off P s k b := ⟨h, by omega⟩
theorem RBus.off {w : World} {P : Nat → Prop} {N : Nat} {l : List Int} {qs : List (List (Int × Int))} {vr vb : Value} (h : RBus w P N l qs vr vb) (k : Nat) : RBus w (Off P w.heap.size k) N l qs vr vb :=
  h.weak (fun _ hg hp => Off.of hp (.inl hg))
theorem RBus.on {w : World} {P : Nat → Prop} {s k : Nat} {N : Nat} {l : List Int} {qs : List (List (Int × Int))} {vr vb : Value} (h : RBus w (Off P s k) N l qs vr vb) : RBus w P N l qs vr vb :=
  h.weak (fun _ _ hp => hp.1)
/-- A store into one of those k blocks. -/
theorem RBus.own {w : World} {P : Nat → Prop} {s k : Nat} {N : Nat} {l : List Int} {qs : List (List (Int × Int))} {vr vb : Value} (h : RBus w (Off P s k) N l qs vr vb) {b : Nat} (h1 : s ≤ b) (h2 : b < s + k) (j : Nat) (u : Value) : RBus (w.setCell ⟨b, j, none⟩ u) (Off P s k) N l qs vr vb :=
  h.only (S := fun g => g = b) ((Only.refl (fun g => g = b) w).setCell (p := ⟨b, j, none⟩) (.inl rfl) u) (fun g e hp => by subst e; exact hp.2 ⟨h1, h2⟩)
theorem Lies.own {w : World} {P : Nat → Prop} {s k : Nat} {v : Value} {xs : List Value} (h : Lies w (Off P s k) v xs) {b : Nat} (h1 : s ≤ b) (h2 : b < s + k) (j : Nat) (u : Value) : Lies (w.setCell ⟨b, j, none⟩ u) (Off P s k) v xs :=
  h.only (S := fun g => g = b) ((Only.refl (fun g => g = b) w).setCell (p := ⟨b, j, none⟩) (.inl rfl) u) (fun g e hp => by subst e; exact hp.2 ⟨h1, h2⟩)
theorem Two.own {w : World} {P : Nat → Prop} {s k : Nat} {v : Value} {xs : List (Value × Value)} (h : Two w (Off P s k) v xs) {b : Nat} (h1 : s ≤ b) (h2 : b < s + k) (j : Nat) (u : Value) : Two (w.setCell ⟨b, j, none⟩ u) (Off P s k) v xs :=
  h.only (S := fun g => g = b) ((Only.refl (fun g => g = b) w).setCell (p := ⟨b, j, none⟩) (.inl rfl) u) (fun g e hp => by subst e; exact hp.2 ⟨h1, h2⟩)
/-- With other words. -/
theorem RBus.words {w : World} {P : Nat → Prop} {N : Nat} {l l' : List Int} {qs : List (List (Int × Int))} {vr vr' vb : Value} (h : RBus w P N l qs vr vb) (hr : Lies w P vr' (ints l')) (hl : l'.length = l.length) : RBus w P N l' qs vr' vb :=
  ⟨hr, h.bufs, h.cap, by rw [hl]; exact h.size, h.most, h.pos, h.fit, h.cap16⟩

/-- Two zeros and the bus in new blocks. -/
def boxW (w : World) (a b : Value) : World := (w.alloc (.cells #[a, b] 34)).alloc (.cells #[.slice none 0 0, .slice none 0 0] 34)
theorem boxW_below (w : World) (a b : Value) : Below w.heap.size w (boxW w a b) := below_on (below_al _ _) (below_al _ _)
theorem boxW_rows (w : World) (a b : Value) : Row (boxW w a b) w.heap.size 34 [a, b] ∧ Row (boxW w a b) (w.heap.size + 1) 34 [.slice none 0 0, .slice none 0 0] := by
  refine ⟨(Row.new w 34 #[a, b]).below (below_al _ _), ?_⟩
  have := Row.new (w.alloc (.cells #[a, b] 34)) 34 #[.slice none 0 0, .slice none 0 0]
  rw [size_al] at this
  exact this

set_option maxRecDepth 100000 in
set_option maxHeartbeats 2000000 in
theorem rdrain6_none (P : Nat → Prop) (N : Nat) (l : List Int) (qs : List (List (Int × Int))) (vr vb : Value) (i : Nat) (w : World) (r : RBus w P N l qs vr vb) (hq : qs[i]? = some []) :
    Calls Try.prog 37 #[.agg #[vr, vb], .int .i64 (i : Int)] w (RBusP P N l qs (fun b => .tuple #[b, .bool false]) w) := by
  obtain ⟨A, k, B, d, rfl, rfl⟩ := r.open_
  obtain ⟨g, o, v, rfl, hPg, hg, e0, e1, hv, hcv⟩ := r.buf hq
  obtain ⟨Av, nv, cv, rfl, HNV, HV⟩ := hv.open_
  have hi := lt_of_at hq
  have hm := r.most
  have R := Lib.hid r
  obtain ⟨w2, hw2⟩ : ∃ w2, boxW w (.slice A l.length k) (.slice (some ⟨g, o, none⟩) qs.length d) = w2 := ⟨_, rfl⟩
  have hb2 := boxW_below w (.slice A l.length k) (.slice (some ⟨g, o, none⟩) qs.length d)
  obtain ⟨r0, r1⟩ := boxW_rows w (.slice A l.length k) (.slice (some ⟨g, o, none⟩) qs.length d)
  rw [hw2] at hb2 r0 r1
  have dr := rbdrain_empty P N (.slice Av nv cv) w2 (HV.out.below hb2) hcv
  unfold boxW at hw2
  obtain ⟨C, hC⟩ : ∃ C, qs.length = C := ⟨_, rfl⟩
  obtain ⟨n, hn⟩ : ∃ n, l.length = n := ⟨_, rfl⟩
  rw [hC] at hi hm hw2 r0 R ⊢
  rw [hn] at hw2 r0 R ⊢
  unfold rbufV stV at dr
  have DR := Lib.hid dr
  have HB2 := Lib.hid hb2
  have R0 := Lib.hid r0
  have R1 := Lib.hid r1
  have a0 := r0.cell 0
  have a1 := r0.cell 1
  simp only [List.getElem?_cons_zero, List.getElem?_cons_succ] at a0 a1
  have e0' : w2.cell? ⟨g, o + i * 2, none⟩ = some (.int .i64 N) := (hb2.cell (p := ⟨g, o + i * 2, none⟩) hg).trans e0
  have e1' : w2.cell? ⟨g, o + i * 2 + 1, none⟩ = some (.slice Av nv cv) := (hb2.cell (p := ⟨g, o + i * 2 + 1, none⟩) hg).trans e1
  clear r hv hq dr hb2 r0 r1 hC hn hcv e0 e1
  go_enter Try.func37, Try.ntmps37
  go_wp2_with fail
  refine DR.out.mono ?_
  rintro e w3 ⟨v3, rfl, hv3, hcv3, hb3⟩
  obtain ⟨A3, n3, c3, rfl, HN3, HV3⟩ := hv3.open_
  have t0 := R0.out.below hb3
  have t1 := R1.out.below hb3
  have x0 := t0.cell 0
  have x1 := t0.cell 1
  have y0 := t1.cell 0
  have y1 := t1.cell 1
  have f0 := t1.soft 0
  have f1 := t1.soft 1
  simp only [List.getElem?_cons_zero, List.getElem?_cons_succ] at x0 x1 y0 y1
  have l0 := t0.lt
  have l1 := t1.lt
  have m0 : w.heap.size ≠ w3.heap.size := by omega
  have m1 : w.heap.size + 1 ≠ w3.heap.size := by omega
  have m2 : w.heap.size ≠ w3.heap.size + 1 := by omega
  have m3 : w.heap.size + 1 ≠ w3.heap.size + 1 := by omega
  have HB3 := Lib.hid (below_on HB2.out hb3)
  clear t0 t1 hv3 hcv3 hb3 hw2 a0 a1 e0' e1'
  unfold rbufV
  go_wp2_with fail
  have hbF := ((HB3.out.setCell (p := ⟨w.heap.size + 1, 0, none⟩) (by show w.heap.size ≤ w.heap.size + 1; omega) (.slice A n k)).setCell (p := ⟨w.heap.size + 1, 1, none⟩) (by show w.heap.size ≤ w.heap.size + 1; omega) (.slice (some ⟨g, o, none⟩) C d))
  exact bodyPost_ret (v := .tuple #[.agg #[.slice A n k, .slice (some ⟨g, o, none⟩) C d], .bool false]) (by simp [results, Try.results37, go_sem, *]) rfl ⟨A, n, k, _, C, d, rfl, R.out.below (below_on hbF (below_on (below_al _ _) (below_al _ _))), below_on hbF (below_on (below_al _ _) (below_al _ _))⟩

set_option maxRecDepth 100000 in
set_option maxHeartbeats 2000000 in
theorem rdrain6_some (P : Nat → Prop) (N : Nat) (l : List Int) (qs : List (List (Int × Int))) (vr vb : Value) (i : Nat) (a b : Int) (t : List (Int × Int)) (w : World) (r : RBus w P N l qs vr vb) (hq : qs[i]? = some ((a, b) :: t)) (hP : ∀ b, w.heap.size ≤ b → P b) :
    Calls Try.prog 37 #[.agg #[vr, vb], .int .i64 (i : Int)] w (RBusP P N (fillL l a 1 b) (qs.set i t) (fun b => .tuple #[b, .bool true]) w) := by
  have r := r.off 2
  have hP' : ∀ b, w.heap.size + 2 ≤ b → Off P w.heap.size 2 b := fun b hb => Off.of (hP b (by omega)) (.inr hb)
  have HP' := Lib.hid hP'
  have hfit := r.fit _ (List.mem_of_getElem? hq)
  have h16 := r.cap16
  have hlm := r.size
  rw [List.length_cons] at hfit
  obtain ⟨A, k, B, d, rfl, rfl⟩ := r.open_
  obtain ⟨g, o, v, rfl, hPg, hg, e0, e1, hv, hcv⟩ := r.buf hq
  obtain ⟨Av, nv, cv, rfl, HNV, HV⟩ := hv.open_
  have hi := lt_of_at hq
  have hm := r.most
  have R := Lib.hid r
  obtain ⟨w2, hw2⟩ : ∃ w2, boxW w (.slice A l.length k) (.slice (some ⟨g, o, none⟩) qs.length d) = w2 := ⟨_, rfl⟩
  have hb2 := boxW_below w (.slice A l.length k) (.slice (some ⟨g, o, none⟩) qs.length d)
  obtain ⟨r0, r1⟩ := boxW_rows w (.slice A l.length k) (.slice (some ⟨g, o, none⟩) qs.length d)
  rw [hw2] at hb2 r0 r1
  have dr := rbdrain_some (Off P w.heap.size 2) N (.slice Av nv cv) a b t w2 (HV.out.below hb2) hcv (by omega)
  unfold boxW at hw2
  obtain ⟨C, hC⟩ : ∃ C, qs.length = C := ⟨_, rfl⟩
  obtain ⟨n, hn⟩ : ∃ n, l.length = n := ⟨_, rfl⟩
  rw [hC] at hi hm hw2 r0 R ⊢
  rw [hn] at hw2 r0 R ⊢
  unfold rbufV stV at dr
  have DR := Lib.hid dr
  have HB2 := Lib.hid hb2
  have R0 := Lib.hid r0
  have R1 := Lib.hid r1
  have a0 := r0.cell 0
  have a1 := r0.cell 1
  simp only [List.getElem?_cons_zero, List.getElem?_cons_succ] at a0 a1
  have e0' : w2.cell? ⟨g, o + i * 2, none⟩ = some (.int .i64 N) := (hb2.cell (p := ⟨g, o + i * 2, none⟩) hg).trans e0
  have e1' : w2.cell? ⟨g, o + i * 2 + 1, none⟩ = some (.slice Av nv cv) := (hb2.cell (p := ⟨g, o + i * 2 + 1, none⟩) hg).trans e1
  have HLM := Lib.hid hlm
  clear r hv hq dr hb2 r0 r1 hn hcv e0 e1 hP' hP hlm
  have HCC := Lib.hid hC
  clear hC
  go_enter Try.func37, Try.ntmps37
  go_wp2_with fail
  refine DR.out.mono ?_
  rintro e w3 ⟨v3, rfl, hv3, hcv3, hb3⟩
  obtain ⟨A3, n3, c3, rfl, HN3, HV3⟩ := hv3.open_
  have t0 := R0.out.below hb3
  have t1 := R1.out.below hb3
  have x0 := t0.cell 0
  have x1 := t0.cell 1
  have y0 := t1.cell 0
  have y1 := t1.cell 1
  have f0 := t1.soft 0
  have f1 := t1.soft 1
  simp only [List.getElem?_cons_zero, List.getElem?_cons_succ] at x0 x1 y0 y1
  have l0 := t0.lt
  have l1 := t1.lt
  have m0 : w.heap.size ≠ w3.heap.size := by omega
  have m1 : w.heap.size + 1 ≠ w3.heap.size := by omega
  have m2 : w.heap.size ≠ w3.heap.size + 1 := by omega
  have m3 : w.heap.size + 1 ≠ w3.heap.size + 1 := by omega
  have HB3 := Lib.hid (below_on HB2.out hb3)
  have wt := fun W (hb : Below w3.heap.size w3 W) => rwith_any (Off P w.heap.size 2) N l qs (.slice A n k) (.slice (some ⟨g, o, none⟩) C d) (.slice A3 n3 c3) i t W ((R.out.below HB3.out).below hb) (by rw [HCC.out]; exact hi) (HV3.out.below hb) hcv3 (by omega) (fun b hb' => HP'.out b (by have := hb.size; omega))
  have WT := Lib.hid wt
  have T0 := Lib.hid t0
  have T1 := Lib.hid t1
  clear t0 t1 hv3 hcv3 hb3 hw2 a0 a1 e0' e1' wt
  unfold rbufV
  go_wp2_with fail
  refine (WT.out _ (below_on (below_al _ _) (below_al _ _))).mono ?_
  rintro e w5 ⟨A5, n5, c5, B5, m5, d5, rfl, hr5, hb5⟩
  have hb5' : Below w3.heap.size w3 w5 := below_on (below_on (below_al _ _) (below_al _ _)) hb5
  have u0 := T0.out.below hb5'
  have u1 := T1.out.below hb5'
  have us : Row w5 (w3.heap.size + 1) 62 [.int .i64 a, .int .i64 b] := by
    have := (Row.new (w3.alloc (.cells #[.int .i64 N, .slice A3 n3 c3] 82)) 62 #[.int .i64 a, .int .i64 b]).below hb5
    rw [size_al] at this
    exact this
  have x0 := u0.cell 0
  have x1 := u0.cell 1
  have s0 := us.cell 0
  have s1 := us.cell 1
  have g0 := u0.soft 0
  have g1 := u0.soft 1
  simp only [List.getElem?_cons_zero, List.getElem?_cons_succ] at x0 x1 s0 s1
  have U0 := Lib.hid u0
  have U1 := Lib.hid u1
  have R5 := Lib.hid hr5
  have HB5 := Lib.hid (below_on HB3.out hb5')
  have l5 := u1.lt
  clear hr5 hb5 hb5' u0 u1 us y0 y1 f0 f1
  simp only [id]
  go_wp2_with fail
  refine (rstore_any (Off P w.heap.size 2) (.slice A5 n5 c5) l a b _ (((R5.out.own (Nat.le_refl _) (by omega) 0 _).own (Nat.le_refl _) (by omega) 1 _).ram) HLM.out (fun b hb' => HP'.out b (by simp [World.setCell] at hb'; omega))).mono ?_
  rintro e w6 ⟨v6, rfl, hv6, hb6⟩
  have r6 := ((R5.out.own (Nat.le_refl _) (by omega) 0 (.slice A5 n5 c5)).own (Nat.le_refl _) (by omega) 1 (.slice B5 m5 d5)).below hb6
  have t0 := ((U0.out.put 0 (.slice A5 n5 c5)).put 1 (.slice B5 m5 d5)).below hb6
  have t1 := ((U1.out.far (p := ⟨w.heap.size, 0, none⟩) (by show w.heap.size + 1 ≠ w.heap.size; omega) (.slice A5 n5 c5)).far (p := ⟨w.heap.size, 1, none⟩) (by show w.heap.size + 1 ≠ w.heap.size; omega) (.slice B5 m5 d5)).below hb6
  have hv6' := hv6
  obtain ⟨A6, c6, rfl, _⟩ := hv6'
  have x0 := t0.cell 0
  have x1 := t0.cell 1
  have y0 := t1.cell 0
  have y1 := t1.cell 1
  have g0 := t0.soft 0
  have f0 := t1.soft 0
  have f1 := t1.soft 1
  simp only [List.set_cons_zero, List.set_cons_succ, List.getElem?_cons_zero, List.getElem?_cons_succ] at x0 x1 y0 y1
  have hb6' : Below w.heap.size w w6 := below_on ((HB5.out.setCell (p := ⟨w.heap.size, 0, none⟩) (Nat.le_refl _) (.slice A5 n5 c5)).setCell (p := ⟨w.heap.size, 1, none⟩) (Nat.le_refl _) (.slice B5 m5 d5)) hb6
  have R6 := Lib.hid (r6.words hv6 (fillL_len _ _ _ _))
  have HB6 := Lib.hid hb6'
  obtain ⟨n6, hn6⟩ : ∃ n6, (ints (fillL l a 1 b)).length = n6 := ⟨_, rfl⟩
  rw [hn6] at R6 ⊢
  clear t0 t1 hv6 hb6 hb6' r6 s0 s1 g1 hn6
  go_wp2_with fail
  have hbF := (((HB6.out.setCell (p := ⟨w.heap.size, 0, none⟩) (Nat.le_refl _) (.slice A6 n6 c6)).setCell (p := ⟨w.heap.size + 1, 0, none⟩) (by show w.heap.size ≤ w.heap.size + 1; omega) (.slice A6 n6 c6)).setCell (p := ⟨w.heap.size + 1, 1, none⟩) (by show w.heap.size ≤ w.heap.size + 1; omega) (.slice B5 m5 d5))
  exact bodyPost_ret (v := .tuple #[.agg #[.slice A6 n6 c6, .slice B5 m5 d5], .bool true]) (by simp [results, Try.results37, go_sem, *]) rfl ⟨A6, n6, c6, B5, m5, d5, rfl, (((R6.out.own (Nat.le_refl _) (by omega) 0 _).own (by omega) (by omega) 0 _).own (by omega) (by omega) 1 _).on, hbF⟩

theorem rdrain6_any (P : Nat → Prop) (N : Nat) (l : List Int) (qs : List (List (Int × Int))) (vr vb : Value) (i : Nat) (q : List (Int × Int)) (w : World) (r : RBus w P N l qs vr vb) (hq : qs[i]? = some q) (hP : ∀ b, w.heap.size ≤ b → P b) :
    Calls Try.prog 37 #[.agg #[vr, vb], .int .i64 (i : Int)] w (RBusP P N (drs l (q.take 1)) (qs.set i (q.drop 1)) (fun b => .tuple #[b, .bool (anyB q)]) w) := by
  cases q with
  | nil =>
    have := rdrain6_none P N l qs vr vb i w r hq
    simpa [anyB, drs_nil, set_same hq] using this
  | cons p t => exact rdrain6_some P N l qs vr vb i p.1 p.2 t w r hq hP

#print axioms rdrain6_any
end Go.Proofs.Ytgoogclcpnfmkaa
