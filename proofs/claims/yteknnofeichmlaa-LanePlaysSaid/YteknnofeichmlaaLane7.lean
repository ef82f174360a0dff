/-
  The walk of the law LanePlays: it returns true for every input, and nothing that was there before the call changes.
  Conditions: none.
-/
import Derived.Test.YteknnofeichmlaaLane6
namespace Go.Proofs.Yteknnofeichmlaa
open Go.ChangeShapes Go.WideShapes Go.ChangeAt Go.RowKit

/-- The state of the law's loop: the queue, the reference's queue in block R, the call more in block B. -/
structure PlayAt (w wr : World) (g h N R B : Nat) (q : List Int) (A : Option Addr) (n c : Nat) (K x : Int) : Prop where
  lane : LaneQ wr g h N q
  row : Row wr R 32 [.int .i64 N, .slice A n c]
  lies : Lies wr (fun b => b ≠ g ∧ b ≠ h ∧ b ≠ R) (.slice A n c) (ints q)
  cap : CapOk (.slice A n c)
  more : Row wr B 24 [.int .i64 K, .int .i64 x]
  below : Below w.heap.size w wr
  ne : R ≠ g ∧ R ≠ h ∧ B ≠ g ∧ B ≠ h ∧ B ≠ R
  new : w.heap.size ≤ g ∧ w.heap.size ≤ h ∧ w.heap.size ≤ R

theorem PlayAt.quiet {w wr w2 : World} {g h N R B : Nat} {q : List Int} {A : Option Addr} {n c : Nat} {K x : Int} (s : PlayAt w wr g h N R B q A n c K x) (hb : Below wr.heap.size wr w2) : PlayAt w w2 g h N R B q A n c K x :=
  ⟨s.lane.below hb, s.row.below hb, s.lies.below hb, s.cap, s.more.below hb, below_on s.below hb, s.ne, s.new⟩

/-- The world behind the store of the reference's queue into its variable. -/
def stored4 (w2 : World) (R : Nat) (u0 u1 : Value) (o : Obj) : World := ((w2.setCell ⟨R, 0, none⟩ u0).setCell ⟨R, 1, none⟩ u1).alloc o

theorem stored4_only (w2 : World) (R : Nat) (u0 u1 : Value) (o : Obj) : Only (fun b => b = R) w2 (stored4 w2 R u0 u1 o) := by
  unfold stored4
  exact (((Only.refl (fun b => b = R) w2).setCell (p := ⟨R, 0, none⟩) (.inl rfl) u0).setCell (p := ⟨R, 1, none⟩) (.inl rfl) u1).alloc o

section
variable {w w2 w4 : World} {g h N R B : Nat} {q q' : List Int} {A A2 : Option Addr} {n c n2 c2 : Nat} {K x : Int} {o : Obj}

theorem PlayAt.mid (s : PlayAt w w2 g h N R B q A n c K x) (u0 u1 : Value) (o : Obj) : LaneQ (stored4 w2 R u0 u1 o) g h N q :=
  s.lane.only (stored4_only _ _ _ _ _) (fun e => s.ne.1 e.symm) (fun e => s.ne.2.1 e.symm)

theorem PlayAt.step (s : PlayAt w w2 g h N R B q A n c K x) (hv : Lies w2 (fun b => b ≠ g ∧ b ≠ h ∧ b ≠ R) (.slice A2 n2 c2) (ints q')) (hcap : CapOk (.slice A2 n2 c2)) (r : LaneQ w4 g h N q')
    (ho : Only (fun b => b = g ∨ b = h) (stored4 w2 R (.int .i64 N) (.slice A2 n2 c2) o) w4) : PlayAt w w4 g h N R B q' A2 n2 c2 K x := by
  have hO := stored4_only w2 R (.int .i64 N) (.slice A2 n2 c2) o
  have hr : Row (stored4 w2 R (.int .i64 N) (.slice A2 n2 c2) o) R 32 [.int .i64 N, .slice A2 n2 c2] := by
    have h1 := ((s.row.put 0 (.int .i64 N)).put 1 (.slice A2 n2 c2)).below (below_al _ o)
    simp only [List.set_cons_succ, List.set_cons_zero] at h1
    exact h1
  have hn := s.ne
  refine ⟨r, hr.only ho (by omega), (hv.only hO (fun b e hp => hp.2.2 e)).only ho (fun b e hp => by rcases e with e | e; exact hp.1 e; exact hp.2.1 e), hcap, (s.more.only hO (by omega)).only ho (by omega), ?_, s.ne, s.new⟩
  have hw := s.new
  exact Only.below (Only.below s.below hO s.below.size (fun b hb e => by omega)) ho (Nat.le_trans s.below.size hO.size) (fun b hb e => by omega)
end

/-- What All leaves, seen from an earlier world. -/
def AllP (q : List Int) (w4 : World) (e : Ending) (w' : World) : Prop := ∃ v, e = .returned v ∧ Hid (Lies w' (fun _ => True) v (ints q)) ∧ Below w4.heap.size w4 w'

theorem all_since {g h N : Nat} {q : List Int} {w4 : World} (r : LaneQ w4 g h N q) (W : World) (hb : Below w4.heap.size w4 W) : Calls Try.prog 14 #[.pointer (some ⟨g, 0, none⟩)] W (AllP q w4) :=
  (all_any g h N q W (r.below hb)).mono fun _ _ ⟨v, he, hv, _, hb'⟩ => ⟨v, he, hv.weak (fun _ _ _ => trivial), below_on hb hb'⟩

theorem same_since {P Q : Nat → Prop} {q : List Int} {v u : Value} {w4 W : World} (hv : Lies W P v (ints q)) (hu : Lies w4 Q u (ints q)) (hb : Below w4.heap.size w4 W) (hq : q.length ≤ 65536) :
    Calls Try.prog 13 #[v, u] W fun e w' => e = .returned (.bool true) ∧ Below w4.heap.size w4 w' :=
  (rsame_yes P Q v u q W hv (hu.below hb) hq).mono fun _ _ ⟨he, hb'⟩ => ⟨he, below_on hb hb'⟩

theorem alive_since {w4 W : World} (hb : Below w4.heap.size w4 W) : Calls Try.prog 6 #[] W fun e w' => e = .returned (.bool true) ∧ Below w4.heap.size w4 w' :=
  (lane_alive W).mono fun _ _ ⟨he, hb'⟩ => ⟨he, below_on hb hb'⟩

set_option maxHeartbeats 2000000 in
theorem lanePlays_main (N : Nat) (v : Value) (R : List (List Int)) (K' x' : Int) (w : World) (hN0 : 1 ≤ N) (hN1 : N ≤ 64) (hR : Recs w 2 v R) (hm : R.length ≤ 150) :
    Calls Try.prog 3 #[.int .i64 (N : Int), v, opV4 K' x'] w fun e w' => e = .returned (.bool true) ∧ Below w.heap.size w w' := by
  have HR := Lib.hid hR
  obtain ⟨A, c, rfl, hA⟩ := hR
  clear hA
  obtain ⟨m, hm'⟩ : ∃ m, R.length = m := ⟨_, rfl⟩
  rw [hm'] at hm HR ⊢
  have HM := Lib.hid hm'; clear hm'
  have g3 : ¬ (150 < (m : Int)) := by omega
  have hne : ((N : Int) != (N : Int)) = false := by simp
  unfold opV4
  go_enter Try.func3, Try.ntmps3
  go_wp2_with fail
  refine (laneNew_yes N _ hN0 hN1).mono ?_
  rintro e w1 ⟨g, h, rfl, r1, hg1, hh1, hb1⟩
  unfold ptr
  go_wp2_with fail
  refine (ris4_yes _ _ (by omega) (by omega)).mono ?_
  rintro e w' ⟨rfl, rfl⟩
  have cp := Lib.hid (cap_any g h N _ w1 r1)
  unfold ptr at cp
  go_wp2_with fail
  refine cp.out.mono ?_
  rintro e w' ⟨rfl, rfl⟩
  have hf1 := r1.fit
  simp at hg1 hh1
  have hs1 := hb1.size
  simp at hs1
  have h0 : PlayAt w (w1.alloc (.cells #[.int .i64 N, .slice none 0 0] 32)) g h N w1.heap.size w.heap.size [] none 0 0 K' x' :=
    ⟨r1.below (below_al _ _), Row.new w1 _ #[.int .i64 N, .slice none 0 0], Lies.nil_ _ _, rfl, ((Row.new w 24 #[.int .i64 K', .int .i64 x']).below hb1).below (below_al _ _),
      below_on (below_on (below_al _ _) hb1) (below_al _ _), by omega, by omega⟩
  have H0 := Lib.hid h0
  obtain ⟨R0, hR0⟩ : ∃ R0, w1.heap.size = R0 := ⟨_, rfl⟩
  rw [hR0] at H0
  clear h0 r1 hg1 hh1 hb1 cp hf1 hs1
  go_wp2
  clear hR0
  go_loopw [48] (fun i wr => ∃ (k : Nat) (q : List Int) (A : Option Addr) (n c : Nat), k ≤ m ∧ i = .int .i64 k ∧ Hid (PlayAt w wr g h N R0 w.heap.size q A n c K' x')) (fun i _ => m - (intOf i).toNat)
  case atStart => exact ⟨0, [], none, 0, 0, Nat.zero_le _, rfl, H0⟩
  case round =>
    clear H0
    obtain ⟨k, q, A0, n0, c0, hk, rfl, S⟩ := hrel
    by_cases hlt : k < m
    · obtain ⟨ad, c', K, x, hzs, hv', hz, z0, z1⟩ := Recs.two HR.out S.out.below (by rw [HM.out]; exact hlt)
      rw [HM.out] at hv'
      injection hv' with hv' _ hv2
      subst hv' hv2
      clear hzs hz
      have S1 := Lib.hid (S.out.quiet (below_al wr (.cells #[.int .i64 K, .int .i64 x] 24)))
      have hsz := S.out.below.size
      have hR0 := S.out.row.lt
      have f0 := S.out.row.cell 0
      have f1 := S.out.row.cell 1
      have s0 := S.out.row.soft 0
      have s1 := S.out.row.soft 1
      simp only [List.getElem?_cons_zero, List.getElem?_cons_succ] at f0 f1
      have hfit := S.out.lane.fit
      have hnew := S.out.new
      go_wp2_with fail
      refine (rdo4_any _ N _ q K x _ S1.out.lies S1.out.cap hfit.1 hN1 (fun b hb => by simp at hb; omega)).mono ?_
      rintro e w2 ⟨v2, rfl, hv2, hcap2, hb2⟩
      obtain ⟨A2, n2, c2, rfl, HN2, HV2⟩ := hv2.open_
      have hsz2 := hb2.size
      simp at hsz2
      have S2 := Lib.hid (S1.out.quiet hb2)
      have t0 := S2.out.row.cell 0
      have t1 := S2.out.row.cell 1
      have y0 := S2.out.row.soft 0
      have y1 := S2.out.row.soft 1
      simp only [List.getElem?_cons_zero, List.getElem?_cons_succ] at t0 t1
      have o0 : w2.cell? ⟨wr.heap.size, 0, none⟩ = some (.int .i64 K) := (hb2.cell (p := ⟨wr.heap.size, 0, none⟩) (by simp)).trans (by simp [go_sem])
      have o1 : w2.cell? ⟨wr.heap.size, 1, none⟩ = some (.int .i64 x) := (hb2.cell (p := ⟨wr.heap.size, 1, none⟩) (by simp)).trans (by simp [go_sem])
      have x1 : w2.heap.size ≠ R0 := by omega
      have x2 : R0 < w2.heap.size := by omega
      have x3 : wr.heap.size < w2.heap.size := by omega
      have x4 : wr.heap.size ≠ R0 := by omega
      have x5 : R0 ≠ wr.heap.size := by omega
      clear f0 f1 s0 s1 z0 z1 hv2 S S1 hb2
      unfold laneV
      go_wp2_with fail
      refine (do4_any g h N q K x _ (S2.out.mid (.int .i64 N) (.slice A2 n2 c2) _)).mono ?_
      rintro e w4 ⟨rfl, r4, ho4⟩
      have S4 := Lib.hid (S2.out.step HV2.out hcap2 r4 ho4)
      have q1 := S4.out.row.cell 1
      simp only [List.getElem?_cons_zero, List.getElem?_cons_succ] at q1
      have hR4 := S4.out.row.lt
      have hx : (doX q K x != doX q K x) = false := by simp
      have hf : (doF N q K x != doF N q K x) = false := by simp
      have hn : ((n2 : Int) != (n2 : Int)) = false := by simp
      have hb4 : Below w4.heap.size w4 w4 := Below.refl _ _
      have ln := Lib.hid (fun W (hb : Below w4.heap.size w4 W) => len_any g h N _ W (S4.out.lane.below hb))
      rw [HN2.out] at ln
      unfold ptr at ln
      have al := Lib.hid (all_since S4.out.lane)
      have hq4 := S4.out.lane.fit
      have hl4 := Lib.hid S4.out.lies
      clear t0 t1 y0 y1 o0 o1 x1 x2 x3 x4 x5 S2 HV2 r4 ho4 hcap2 hsz2
      go_wp2
      go_region_held3 (fun w' => w'.cell? ⟨R0, 1, none⟩ = some (.slice A2 n2 c2) ∧ Below w4.heap.size w4 w')
        (first | exact ⟨by simpa using q1, hb4.drew⟩ | exact ⟨by simpa using q1, hb4⟩ | exact ⟨(hb6.cell (p := ⟨R0, 1, none⟩) hR4).trans q1, hb6⟩ | exact ⟨(hb5.cell (p := ⟨R0, 1, none⟩) hR4).trans q1, hb5⟩ | go_keep)
        (first
          | (go_at_call 12; refine (ln.out _ ?_).mono ?_; (go_split_ands; assumption); rintro e w' ⟨rfl, rfl⟩)
          | (go_at_call 14; refine (al.out _ ?_).mono ?_; (go_split_ands; assumption); rintro e w5 ⟨v5, rfl, hv5, hb5⟩)
          | (go_at_call 13; refine (same_since hv5.out hl4.out ?_ (by omega)).mono ?_; (go_split_ands; assumption); rintro e w6 ⟨rfl, hb6⟩))
      have S6 := Lib.hid (S4.out.quiet hb6)
      clear S4 ln al hl4 hv5 hb5 hb4 q1 hR4 hb6
      go_wp2
      go_roundw
      case rel => exact ⟨k + 1, _, _, _, _, by omega, by go_num, S6⟩
      case measure => simp [intOf]; omega
    · obtain rfl : k = m := by omega
      have cl := Lib.hid (cloneL_any g h N q _ S.out.lane)
      unfold ptr at cl
      go_wp2_with fail
      refine cl.out.mono ?_
      rintro e w2 ⟨g', h', rfl, r2, hg2, hh2, hb2⟩
      unfold ptr
      have hfit := S.out.lane.fit
      have hnew := S.out.new
      have hsz := S.out.below.size
      have hRl := S.out.row.lt
      have hBl := S.out.more.lt
      have hne := S.out.ne
      have S2 := Lib.hid (S.out.quiet hb2)
      have L2 := Lib.hid ((S.out.lies.weak (Q := fun b => b ≠ g' ∧ b ≠ h') (fun b hb _ => by omega)).below hb2)
      have t0 := S2.out.row.cell 0
      have t1 := S2.out.row.cell 1
      have z0 := S2.out.more.cell 0
      have z1 := S2.out.more.cell 1
      simp only [List.getElem?_cons_zero, List.getElem?_cons_succ] at t0 t1 z0 z1
      have hr2 := r2.fit
      have hs2 := hb2.size
      clear cl S hb2
      go_wp2_with fail
      refine (rdo4_any _ N _ q K' x' _ L2.out S2.out.cap hfit.1 hN1 (fun b hb => by omega)).mono ?_
      rintro e w3 ⟨v3, rfl, hv3, hcap3, hb3⟩
      obtain ⟨A3, n3, c3, rfl, HN3, HV3⟩ := hv3.open_
      have S3 := Lib.hid (S2.out.quiet hb3)
      have r3 := Lib.hid (r2.below hb3)
      have L3 := Lib.hid (L2.out.below hb3)
      have y0 := S3.out.more.cell 0
      have y1 := S3.out.more.cell 1
      simp only [List.getElem?_cons_zero, List.getElem?_cons_succ] at y0 y1
      have hs3 := hb3.size
      unfold laneV
      clear t0 t1 z0 z1 L2 S2 hv3 r2 hb3 hcap3
      have x3 : w.heap.size < w3.heap.size := by omega
      have x4 : w3.heap.size ≠ w.heap.size := by omega
      have B4 := below_al w3 (.cells #[.int .i64 N, .slice A3 n3 c3] 32)
      have S4 := Lib.hid (S3.out.quiet B4)
      have r4 := Lib.hid (r3.out.below B4)
      have L4 := Lib.hid (HV3.out.below B4)
      have M4 := Lib.hid (L3.out.below B4)
      have R4 := Row.new w3 32 #[.int .i64 N, .slice A3 n3 c3]
      have cp := Lib.hid (cap_any g' h' N _ _ r4.out)
      have dd := Lib.hid (do4_any g' h' N q K' x' _ r4.out)
      unfold ptr at cp dd
      have RV := Lib.hid R4
      clear R4 S3 r3 HV3 B4 L3
      go_wp2_with fail
      refine cp.out.mono ?_
      rintro e w' ⟨rfl, rfl⟩
      go_wp2_with fail
      refine dd.out.mono ?_
      rintro e w5 ⟨rfl, r5, ho5⟩
      have R5 := RV.out.only ho5 (by omega)
      have S5l := S4.out.lane.only ho5 (by omega) (by omega)
      have S5r := S4.out.row.only ho5 (by omega)
      have H5 := Lib.hid (L4.out.only ho5 (fun b e hp => by rcases e with e | e; exact hp.1 e; exact hp.2 e))
      have v1 := R5.cell 1
      have q1 := S5r.cell 1
      simp only [List.getElem?_cons_zero, List.getElem?_cons_succ] at v1 q1
      have hV5 := R5.lt
      have hR5 := S5r.lt
      have al1 := Lib.hid (all_since r5)
      have al2 := Lib.hid (all_since S5l)
      have hl2 := Lib.hid (M4.out.only ho5 (fun b e hp => by rcases e with e | e; exact hp.1 e; exact hp.2 e))
      have hb5 : Below w5.heap.size w5 w5 := Below.refl _ _
      have hx : (doX q K' x' == doX q K' x') = true := by simp
      have hf : (doF N q K' x' == doF N q K' x') = true := by simp
      have hq5 := r5.fit
      have HB := Lib.hid (Only.below S4.out.below ho5 S4.out.below.size (fun b hb e => by omega))
      clear r5 ho5 R5 S5l S5r S4 r4 L4 M4 cp dd RV y0 y1 x3 x4
      go_wp2
      go_region_held3 (fun w' => w'.cell? ⟨w3.heap.size, 1, none⟩ = some (.slice A3 n3 c3) ∧ w'.cell? ⟨R0, 1, none⟩ = some (.slice A0 n0 c0) ∧ Below w5.heap.size w5 w')
        (first
          | exact ⟨(hb10.cell (p := ⟨w3.heap.size, 1, none⟩) hV5).trans v1, (hb10.cell (p := ⟨R0, 1, none⟩) hR5).trans q1, hb10⟩
          | exact ⟨(hb9.cell (p := ⟨w3.heap.size, 1, none⟩) hV5).trans v1, (hb9.cell (p := ⟨R0, 1, none⟩) hR5).trans q1, hb9⟩
          | exact ⟨(hb8.cell (p := ⟨w3.heap.size, 1, none⟩) hV5).trans v1, (hb8.cell (p := ⟨R0, 1, none⟩) hR5).trans q1, hb8⟩
          | exact ⟨(hb7.cell (p := ⟨w3.heap.size, 1, none⟩) hV5).trans v1, (hb7.cell (p := ⟨R0, 1, none⟩) hR5).trans q1, hb7⟩
          | exact ⟨(hb6.cell (p := ⟨w3.heap.size, 1, none⟩) hV5).trans v1, (hb6.cell (p := ⟨R0, 1, none⟩) hR5).trans q1, hb6⟩
          | exact ⟨by simpa using v1, by simpa using q1, hb5.drew⟩
          | exact ⟨by simpa using v1, by simpa using q1, hb5⟩
          | go_keep)
        (first
          | (go_at_call 14; (with_reducible refine (al1.out _ ?_).mono ?_); (go_split_ands; assumption); rintro e w6 ⟨v6, rfl, hv6, hb6⟩)
          | (go_at_call 14; (with_reducible refine (al2.out _ ?_).mono ?_); (go_split_ands; assumption); rintro e w8 ⟨v8, rfl, hv8, hb8⟩)
          | (go_at_call 13; (with_reducible refine (same_since hv8.out hl2.out ?_ (by omega)).mono ?_); (go_split_ands; assumption); rintro e w9 ⟨rfl, hb9⟩)
          | (go_at_call 13; (with_reducible refine (same_since hv6.out H5.out ?_ (by omega)).mono ?_); (go_split_ands; assumption); rintro e w7 ⟨rfl, hb7⟩)
          | (go_at_call 6; refine (alive_since (w4 := w5) ?_).mono ?_; (go_split_ands; assumption); rintro e w10 ⟨rfl, hb10⟩))
      go_wp2
      go_ret
      exact ⟨rfl, below_on HB.out hb10⟩

set_option maxHeartbeats 800000 in
theorem lanePlays_any (n : Int) (v : Value) (R : List (List Int)) (K x : Int) (w : World) (hR : Recs w 2 v R) (hm : R.length ≤ maxLen) :
    Calls Try.prog 3 #[.int .i64 n, v, opV4 K x] w fun e w' => e = .returned (.bool true) ∧ Below w.heap.size w w' := by
  unfold maxLen at hm
  have al := fun W => Lib.hid (lane_alive W)
  by_cases h1 : 150 < R.length
  · obtain ⟨A, c, rfl, hA⟩ := hR
    clear hA
    have h1' : (150 : Int) < (R.length : Int) := by omega
    unfold opV4
    go_enter Try.func3, Try.ntmps3
    go_wp2_with (go_at_call 6; refine (al _).out.mono ?_; rintro e w3 ⟨rfl, hb3⟩)
    go_ret
    exact ⟨rfl, below_on (below_al _ _) hb3⟩
  · by_cases h3 : n < 1 ∨ 64 < n
    · obtain ⟨A, c, rfl, hA⟩ := hR
      clear hA
      have h1' : ¬ ((150 : Int) < (R.length : Int)) := by omega
      have nw := fun W => Lib.hid (laneNew_no n W h3)
      have is := fun W => Lib.hid (ris4_no n W h3)
      clear h3
      unfold opV4
      go_enter Try.func3, Try.ntmps3
      go_wp2_with (first
        | (go_at_call 7; refine (nw _).out.mono ?_; rintro e w' ⟨rfl, rfl⟩)
        | (go_at_call 8; refine (is _).out.mono ?_; rintro e w' ⟨rfl, rfl⟩)
        | (go_at_call 6; refine (al _).out.mono ?_; rintro e w3 ⟨rfl, hb3⟩))
      go_ret
      exact ⟨rfl, below_on (below_al _ _) hb3⟩
    · obtain ⟨N, rfl⟩ := Int.eq_ofNat_of_zero_le (show 0 ≤ n by omega)
      exact lanePlays_main N v R K x w (by omega) (by omega) hR (by omega)

#print axioms lanePlays_any
end Go.Proofs.Yteknnofeichmlaa
