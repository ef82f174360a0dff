/-
  The walk of the law LocksPlay: it returns true for every input, and nothing that was there before the call changes.
  Conditions: none.
-/
import Derived.Test.YtdpoigeeechchaaRLk4
import Derived.Test.YtdpoigeeechchaaRLk5
import Derived.Test.YtdpoigeeechchaaLk5
import Derived.Test.YtdpoigeeechchaaArgs2
namespace Go.Proofs.Ytdpoigeeechchaa
open Go.ChangeShapes Go.WideShapes Go.ChangeAt Go.RowKit

/-- The state of the law's loop: the bank, the reference's bank in block R, the call more in block B. -/
structure Play10 (w wr : World) (g C R B : Nat) (l : List Int) (A : Option Addr) (n c : Nat) (K x y : Int) : Prop where
  bank : BankAt wr g C l
  row : Row wr R 31 [.int .i64 C, .slice A n c]
  lies : Lies wr (fun b => b ≠ g ∧ b ≠ R) (.slice A n c) (ints l)
  cap : CapOk (.slice A n c)
  more : Row wr B 24 [.int .i64 K, .int .i64 x, .int .i64 y]
  below : Below w.heap.size w wr
  ne : R ≠ g ∧ B ≠ g ∧ B ≠ R
  new : w.heap.size ≤ g ∧ w.heap.size ≤ R

theorem Play10.quiet {w wr w2 : World} {g C R B : Nat} {l : List Int} {A : Option Addr} {n c : Nat} {K x y : Int} (s : Play10 w wr g C R B l A n c K x y) (hb : Below wr.heap.size wr w2) : Play10 w w2 g C R B l A n c K x y :=
  ⟨s.bank.below hb, s.row.below hb, s.lies.below hb, s.cap, s.more.below hb, below_on s.below hb, s.ne, s.new⟩

/-- The world behind the store of the reference's bank into its variable. -/
def stored10 (w2 : World) (R : Nat) (u0 u1 : Value) (o : Obj) : World := ((w2.setCell ⟨R, 0, none⟩ u0).setCell ⟨R, 1, none⟩ u1).alloc o

theorem stored10_only (w2 : World) (R : Nat) (u0 u1 : Value) (o : Obj) : Only (fun b => b = R) w2 (stored10 w2 R u0 u1 o) := by
  unfold stored10
  exact (((Only.refl (fun b => b = R) w2).setCell (p := ⟨R, 0, none⟩) (.inl rfl) u0).setCell (p := ⟨R, 1, none⟩) (.inl rfl) u1).alloc o

section
variable {w w2 w4 : World} {g C R B : Nat} {l l' : List Int} {A A2 : Option Addr} {n c n2 c2 : Nat} {K x y : Int} {o : Obj}

theorem Play10.mid (s : Play10 w w2 g C R B l A n c K x y) (u0 u1 : Value) (o : Obj) : BankAt (stored10 w2 R u0 u1 o) g C l :=
  s.bank.only (stored10_only _ _ _ _ _) (fun e => s.ne.1 e.symm)

theorem Play10.step (s : Play10 w w2 g C R B l A n c K x y) (hv : Lies w2 (fun b => b ≠ g ∧ b ≠ R) (.slice A2 n2 c2) (ints l')) (hcap : CapOk (.slice A2 n2 c2)) (r : BankAt w4 g C l')
    (ho : Only (· = g) (stored10 w2 R (.int .i64 C) (.slice A2 n2 c2) o) w4) : Play10 w w4 g C R B l' A2 n2 c2 K x y := by
  have hO := stored10_only w2 R (.int .i64 C) (.slice A2 n2 c2) o
  have hr : Row (stored10 w2 R (.int .i64 C) (.slice A2 n2 c2) o) R 31 [.int .i64 C, .slice A2 n2 c2] := by
    have h1 := ((s.row.put 0 (.int .i64 C)).put 1 (.slice A2 n2 c2)).below (below_al _ o)
    simp only [List.set_cons_succ, List.set_cons_zero] at h1
    exact h1
  have hn := s.ne
  refine ⟨r, hr.only ho (by omega), (hv.only hO (fun b e hp => hp.2 e)).only ho (fun b e hp => hp.1 e), hcap, (s.more.only hO (by omega)).only ho (by omega), ?_, s.ne, s.new⟩
  have hw := s.new
  exact Only.below (Only.below s.below hO s.below.size (fun b hb e => by omega)) ho (Nat.le_trans s.below.size hO.size) (fun b hb e => by omega)
end

/-- Contracts seen from an earlier world. -/
theorem like_s10 {g C : Nat} {l : List Int} {P : Nat → Prop} {v : Value} {w4 : World} (r : BankAt w4 g C l) (hv : Lies w4 P v (ints l)) (W : World) (hb : Below w4.heap.size w4 W) :
    Calls Try.prog 12 #[.pointer (some ⟨g, 0, none⟩), rbankV C v] W fun e w' => e = .returned (.bool true) ∧ Below w4.heap.size w4 w' :=
  (like10_yes g C l P v W (r.below hb) (hv.below hb)).mono fun _ _ ⟨he, hb'⟩ => ⟨he, below_on hb hb'⟩

theorem bsame_s10 {g g' C : Nat} {l m : List Int} {w4 : World} (r : BankAt w4 g C l) (r' : BankAt w4 g' C m) (hl : l.length = m.length) (W : World) (hb : Below w4.heap.size w4 W) :
    Calls Try.prog 14 #[.pointer (some ⟨g, 0, none⟩), .pointer (some ⟨g', 0, none⟩)] W fun e w' => e = .returned (.bool (decide (l = m))) ∧ Below w4.heap.size w4 w' :=
  (same10_any g g' C l m W (r.below hb) (r'.below hb) hl).mono fun _ _ ⟨he, hb'⟩ => ⟨he, below_on hb hb'⟩

theorem rsame_s10 {P Q : Nat → Prop} {x y : List Int} {v u : Value} {w4 : World} (hv : Lies w4 P v (ints x)) (hu : Lies w4 Q u (ints y)) (hx : x.length ≤ 65536) (hy : y.length ≤ 65536) (W : World) (hb : Below w4.heap.size w4 W) :
    Calls Try.prog 15 #[v, u] W fun e w' => e = .returned (.bool (decide (x = y))) ∧ Below w4.heap.size w4 w' :=
  (rsame_any P Q v u x y W (hv.below hb) (hu.below hb) hx hy).mono fun _ _ ⟨he, hb'⟩ => ⟨he, below_on hb hb'⟩

theorem alive_s10 {w4 W : World} (hb : Below w4.heap.size w4 W) : Calls Try.prog 6 #[] W fun e w' => e = .returned (.bool true) ∧ Below w4.heap.size w4 w' :=
  (alive10 W).mono fun _ _ ⟨he, hb'⟩ => ⟨he, below_on hb hb'⟩

theorem keep4 {w0 w' : World} {B D : Nat} {a b c d : Value} (f0 : w0.cell? ⟨B, 0, none⟩ = some a) (f1 : w0.cell? ⟨B, 1, none⟩ = some b) (f2 : w0.cell? ⟨D, 0, none⟩ = some c) (f3 : w0.cell? ⟨D, 1, none⟩ = some d) (hB : B < w0.heap.size) (hD : D < w0.heap.size) (hb : Below w0.heap.size w0 w') :
    w'.cell? ⟨B, 0, none⟩ = some a ∧ w'.cell? ⟨B, 1, none⟩ = some b ∧ w'.cell? ⟨D, 0, none⟩ = some c ∧ w'.cell? ⟨D, 1, none⟩ = some d ∧ Below w0.heap.size w0 w' :=
  ⟨(hb.cell (p := ⟨B, 0, none⟩) hB).trans f0, (hb.cell (p := ⟨B, 1, none⟩) hB).trans f1, (hb.cell (p := ⟨D, 0, none⟩) hD).trans f2, (hb.cell (p := ⟨D, 1, none⟩) hD).trans f3, hb⟩

set_option maxRecDepth 100000 in
set_option maxHeartbeats 8000000 in
theorem locksPlay_main (C N : Nat) (v : Value) (R : List (List Int)) (K' x' y' : Int) (w : World) (c0 : 1 ≤ C) (c8 : C ≤ 8) (n0 : 1 ≤ N) (n16 : N ≤ 16) (hR : Recs w 3 v R) (hm : R.length ≤ 100) :
    Calls Try.prog 3 #[.int .i64 (C : Int), .int .i64 (N : Int), v, opV10 K' x' y'] w fun e w' => e = .returned (.bool true) ∧ Below w.heap.size w w' := by
  have HR := Lib.hid hR
  obtain ⟨A, c, rfl, hA⟩ := hR
  clear hA
  obtain ⟨m, hm'⟩ : ∃ m, R.length = m := ⟨_, rfl⟩
  rw [hm'] at hm HR ⊢
  have HM := Lib.hid hm'; clear hm'
  have g3 : ¬ (100 < (m : Int)) := by omega
  have nw := Lib.hid (fun W => new10_yes C N W c0 c8 n0 n16)
  have is := Lib.hid (fun W => ris10_yes C N W (by omega) (by omega) (by omega) (by omega))
  have rn := Lib.hid (fun W => rnew10_any C N W n16)
  unfold opV10
  go_enter Try.func3, Try.ntmps3
  go_wp2_with fail
  refine (nw.out _).mono ?_
  rintro e w1 ⟨g, rfl, r1, hg1, hb1⟩
  unfold ptr
  go_wp2_with fail
  refine (is.out _).mono ?_
  rintro e w' ⟨rfl, rfl⟩
  go_wp2_with fail
  refine (rn.out _).mono ?_
  rintro e w2 ⟨v2, rfl, hv2, hcap2, hb2⟩
  obtain ⟨A2, n2, c2, rfl, HN2, HV2⟩ := hv2.open10
  unfold rbankV
  simp at hg1
  have hs1 := hb1.size
  simp at hs1
  have hs2 := hb2.size
  have hgl := r1.row.lt
  have h0 : Play10 w (w2.alloc (.cells #[.int .i64 C, .slice A2 n2 c2] 31)) g C w2.heap.size w.heap.size (List.replicate N (-1)) A2 n2 c2 K' x' y' :=
    ⟨(r1.below hb2).below (below_al _ _), Row.new w2 _ #[.int .i64 C, .slice A2 n2 c2], (HV2.out.weak (fun b hb (h : w1.heap.size ≤ b) => by constructor <;> omega)).below (below_al _ _), hcap2, (((Row.new w 24 #[.int .i64 K', .int .i64 x', .int .i64 y']).below hb1).below hb2).below (below_al _ _),
      below_on (below_on (below_on (below_al _ _) hb1) hb2) (below_al _ _), by omega, by omega⟩
  have H0 := Lib.hid h0
  have HL0 : Hid ((List.replicate N (-1 : Int)).length = N) := Lib.hid (by simp)
  obtain ⟨R0, hR0⟩ : ∃ R0, w2.heap.size = R0 := ⟨_, rfl⟩
  rw [hR0] at H0
  clear h0 r1 hg1 hb1 hb2 hv2 HV2 hs1 hs2 hgl nw is rn
  go_wp2
  clear hR0
  go_loopw [47] (fun i wr => ∃ (k : Nat) (l : List Int) (A : Option Addr) (n c : Nat), k ≤ m ∧ i = .int .i64 k ∧ Hid (l.length = N) ∧ Hid (Play10 w wr g C R0 w.heap.size l A n c K' x' y')) (fun i _ => m - (intOf i).toNat)
  case atStart => exact ⟨0, _, A2, n2, c2, Nat.zero_le _, rfl, HL0, H0⟩
  case round =>
    clear H0 HL0
    obtain ⟨k, l, A0, n0', cc0, hk, rfl, HL, S⟩ := hrel
    by_cases hlt : k < m
    · obtain ⟨ad, c', K, x, y, hzs, hv', hz, z0, z1, z2, hadl⟩ := Recs.three HR.out S.out.below (by rw [HM.out]; exact hlt)
      rw [HM.out] at hv'
      injection hv' with hv' _ hv2
      subst hv' hv2
      clear hzs hz
      have S1 := Lib.hid (S.out.quiet (below_al wr (.cells #[.int .i64 K, .int .i64 x, .int .i64 y] 24)))
      have hsz := S.out.below.size
      have hR0 := S.out.row.lt
      have f0 := S.out.row.cell 0
      have f1 := S.out.row.cell 1
      have s0 := S.out.row.soft 0
      have s1 := S.out.row.soft 1
      simp only [List.getElem?_cons_zero, List.getElem?_cons_succ] at f0 f1
      have hnew := S.out.new
      have hgl := S.out.bank.row.lt
      have rd := Lib.hid (rdo10_any _ C _ l K x y _ S1.out.lies S1.out.cap (by rw [HL.out]; exact n16) S1.out.bank.ok (fun b hb => by simp at hb; omega))
      have DL := Lib.hid (dL_len C l K x y)
      obtain ⟨X, hX⟩ : ∃ X, dX C l K x y = X := ⟨_, rfl⟩
      obtain ⟨E, hE⟩ : ∃ E, dE C l K x y = E := ⟨_, rfl⟩
      obtain ⟨l', hl'⟩ : ∃ l', dL C l K x y = l' := ⟨_, rfl⟩
      have DO := Lib.hid (fun W r => do10_any g C l K x y W r)
      rw [hX, hE, hl'] at rd DO
      rw [hl', HL.out] at DL
      unfold rbankV opV10 at rd
      unfold ptr opV10 at DO
      clear hX hE hl'
      go_wp2_with fail
      refine rd.out.mono ?_
      rintro e w2 ⟨v2, rfl, hv2, hcap2, hb2⟩
      obtain ⟨A2, n2, c2, rfl, HN2, HV2⟩ := hv2.open10
      have hsz2 := hb2.size
      simp at hsz2
      have S2 := Lib.hid (S1.out.quiet hb2)
      have t0 := S2.out.row.cell 0
      have t1 := S2.out.row.cell 1
      have y0 := S2.out.row.soft 0
      have y1 := S2.out.row.soft 1
      simp only [List.getElem?_cons_zero, List.getElem?_cons_succ] at t0 t1
      have o0 : w2.cell? ⟨wr.heap.size, 0, none⟩ = some (.int .i64 K) := (hb2.cell (p := ⟨wr.heap.size, 0, none⟩) (by simp)).trans (by simp [go_sem])
      have o1 : w2.cell? ⟨wr.heap.size, 1, none⟩ = some (.int .i64 x) := (hb2.cell (p := ⟨wr.heap.size, 1, none⟩) (by simp)).trans (by simp [go_sem])
      have o2 : w2.cell? ⟨wr.heap.size, 2, none⟩ = some (.int .i64 y) := (hb2.cell (p := ⟨wr.heap.size, 2, none⟩) (by simp)).trans (by simp [go_sem])
      have x1 : w2.heap.size ≠ R0 := by omega
      have x2 : R0 < w2.heap.size := by omega
      have x3 : wr.heap.size < w2.heap.size := by omega
      have x4 : wr.heap.size ≠ R0 := by omega
      have x5 : R0 ≠ wr.heap.size := by omega
      clear f0 f1 s0 s1 z0 z1 z2 hv2 S S1 hb2 rd
      unfold rbankV
      go_wp2_with fail
      refine (DO.out _ (S2.out.mid (.int .i64 C) (.slice A2 n2 c2) _)).mono ?_
      rintro e w4 ⟨rfl, r4, ho4⟩
      have S4 := Lib.hid (S2.out.step HV2.out hcap2 r4 ho4)
      have q0 := S4.out.row.cell 0
      have q1 := S4.out.row.cell 1
      simp only [List.getElem?_cons_zero, List.getElem?_cons_succ] at q0 q1
      have hR4 := S4.out.row.lt
      have hx : (X != X) = false := by simp
      have hf : (E != E) = false := by simp
      have lk := Lib.hid (like_s10 S4.out.bank S4.out.lies w4 (Below.refl _ _))
      unfold rbankV at lk
      clear t0 t1 y0 y1 o0 o1 o2 x1 x2 x3 x4 x5 S2 HV2 r4 ho4 hcap2 hsz2 DO
      go_wp2_with fail
      refine lk.out.mono ?_
      rintro e w6 ⟨rfl, hb6⟩
      have S6 := Lib.hid (S4.out.quiet hb6)
      clear S4 lk q0 q1 hR4 hb6
      go_wp2
      go_roundw
      case rel => exact ⟨k + 1, _, _, _, _, by omega, by go_num, DL, S6⟩
      case measure => simp [intOf]; omega
    · obtain rfl : k = m := by omega
      have cl := Lib.hid (clone10_any g C l _ S.out.bank)
      unfold ptr at cl
      go_wp2_with fail
      refine cl.out.mono ?_
      rintro e w2 ⟨g', rfl, r2, hg2, hb2⟩
      unfold ptr
      have hnew := S.out.new
      have hsz := S.out.below.size
      have hRl := S.out.row.lt
      have hBl := S.out.more.lt
      have hne := S.out.ne
      have hgl := S.out.bank.row.lt
      have S2 := Lib.hid (S.out.quiet hb2)
      have R2 := Lib.hid r2
      have L2 := Lib.hid ((S.out.lies.weak (Q := fun b => b ≠ g' ∧ b ≠ g) (fun b hb h => ⟨by omega, h.1⟩)).below hb2)
      have sm := Lib.hid (bsame_s10 S2.out.bank r2 rfl w2 (Below.refl _ _))
      rw [show decide (l = l) = true from by simp] at sm
      have hs2 := hb2.size
      have hg2l := r2.row.lt
      clear cl S hb2 r2
      go_wp2_with fail
      refine sm.out.mono ?_
      rintro e w3 ⟨rfl, hb3⟩
      have S3 := Lib.hid (S2.out.quiet hb3)
      have R3 := Lib.hid (R2.out.below hb3)
      have L3 := Lib.hid (L2.out.below hb3)
      have t0 := S3.out.row.cell 0
      have t1 := S3.out.row.cell 1
      have z0 := S3.out.more.cell 0
      have z1 := S3.out.more.cell 1
      have z2 := S3.out.more.cell 2
      simp only [List.getElem?_cons_zero, List.getElem?_cons_succ] at t0 t1 z0 z1 z2
      have hs3 := hb3.size
      have rd := Lib.hid (rdo10_any _ C _ l K' x' y' w3 L3.out S3.out.cap (by rw [HL.out]; exact n16) R3.out.ok (fun b hb => by omega))
      have DL := Lib.hid (dL_len C l K' x' y')
      obtain ⟨X, hX⟩ : ∃ X, dX C l K' x' y' = X := ⟨_, rfl⟩
      obtain ⟨E, hE⟩ : ∃ E, dE C l K' x' y' = E := ⟨_, rfl⟩
      obtain ⟨l', hl'⟩ : ∃ l', dL C l K' x' y' = l' := ⟨_, rfl⟩
      have DO := Lib.hid (fun W r => do10_any g' C l K' x' y' W r)
      rw [hX, hE, hl'] at rd DO
      rw [hl', HL.out] at DL
      unfold rbankV opV10 at rd
      unfold ptr opV10 at DO
      clear hX hE hl' sm S2 R2 L2 hb3
      go_wp2_with fail
      refine rd.out.mono ?_
      rintro e w4 ⟨v4, rfl, hv4, hcap4, hb4⟩
      obtain ⟨A4, n4, c4, rfl, HN4, HV4⟩ := hv4.open10
      have S4 := Lib.hid (S3.out.quiet hb4)
      have R4 := Lib.hid (R3.out.below hb4)
      have L4 := Lib.hid (L3.out.below hb4)
      have y0 := S4.out.more.cell 0
      have y1 := S4.out.more.cell 1
      have y2 := S4.out.more.cell 2
      simp only [List.getElem?_cons_zero, List.getElem?_cons_succ] at y0 y1 y2
      have hs4 := hb4.size
      have x3 : w.heap.size < w4.heap.size := by omega
      have x4 : w4.heap.size ≠ w.heap.size := by omega
      have B5 := below_al w4 (.cells #[.int .i64 C, .slice A4 n4 c4] 31)
      have S5 := Lib.hid (S4.out.quiet B5)
      have R5 := Lib.hid (R4.out.below B5)
      have L5 := Lib.hid (L4.out.below B5)
      have V5 := Lib.hid (HV4.out.below B5)
      have RV := Lib.hid (Row.new w4 31 #[.int .i64 C, .slice A4 n4 c4])
      have dd := Lib.hid (DO.out _ R5.out)
      unfold rbankV
      clear t0 t1 z0 z1 z2 hv4 hb4 B5 S3 S4 R3 R4 L3 L4 HV4 hcap4 rd DO
      go_wp2_with fail
      refine dd.out.mono ?_
      rintro e w6 ⟨rfl, r6, ho6⟩
      have R6 := RV.out.only ho6 (by omega)
      have B6 := S5.out.bank.only ho6 (by omega)
      have S6r := S5.out.row.only ho6 (by omega)
      have V6 := V5.out.only ho6 (fun b e hp => hp.1 e)
      have L6 := L5.out.only ho6 (fun b e hp => hp.1 e)
      have v0 := R6.cell 0
      have v1 := R6.cell 1
      have q0 := S6r.cell 0
      have q1 := S6r.cell 1
      simp only [List.getElem?_cons_zero, List.getElem?_cons_succ] at v0 v1 q0 q1
      have hV6 := R6.lt
      have hR6 := S6r.lt
      have k1 := Lib.hid (like_s10 r6 V6)
      have k2 := Lib.hid (like_s10 B6 L6)
      have k3 := Lib.hid (bsame_s10 B6 r6 (by rw [DL.out, HL.out]))
      have k4 := Lib.hid (rsame_s10 V6 L6 (by rw [DL.out]; omega) (by rw [HL.out]; omega))
      obtain ⟨D, hD⟩ : ∃ D, decide (l = l') = D := ⟨_, rfl⟩
      have hD' : decide (l' = l) = D := by rw [← hD]; exact decide_eq_decide.2 ⟨Eq.symm, Eq.symm⟩
      rw [hD] at k3
      rw [hD'] at k4
      have hb6 : Below w6.heap.size w6 w6 := Below.refl _ _
      have hx : (X == X) = true := by simp
      have hf : (E == E) = true := by simp
      have hdd : (D == D) = true := by simp
      have HB := Lib.hid (Only.below S5.out.below ho6 S5.out.below.size (fun b hb e => by omega))
      unfold rbankV at k1 k2
      clear r6 ho6 R6 B6 S6r V6 L6 S5 R5 L5 V5 RV dd y0 y1 y2 x3 x4 hD hD'
      go_wp2
      go_region_held3 (fun w' => w'.cell? ⟨w4.heap.size, 0, none⟩ = some (.int .i64 C) ∧ w'.cell? ⟨w4.heap.size, 1, none⟩ = some (.slice A4 n4 c4) ∧ w'.cell? ⟨R0, 0, none⟩ = some (.int .i64 C) ∧ w'.cell? ⟨R0, 1, none⟩ = some (.slice A0 n0' cc0) ∧ Below w6.heap.size w6 w')
        (first
          | exact keep4 v0 v1 q0 q1 hV6 hR6 hb11
          | exact keep4 v0 v1 q0 q1 hV6 hR6 hb10
          | exact keep4 v0 v1 q0 q1 hV6 hR6 hb9
          | exact keep4 v0 v1 q0 q1 hV6 hR6 hb8
          | exact keep4 v0 v1 q0 q1 hV6 hR6 hb7
          | exact keep4 v0 v1 q0 q1 hV6 hR6 hb6.drew
          | exact keep4 v0 v1 q0 q1 hV6 hR6 hb6
          | go_keep)
        (first
          | (go_at_call 12; (with_reducible refine (k1.out _ ?_).mono ?_); (go_split_ands; assumption); rintro e w7 ⟨rfl, hb7⟩)
          | (go_at_call 12; (with_reducible refine (k2.out _ ?_).mono ?_); (go_split_ands; assumption); rintro e w8 ⟨rfl, hb8⟩)
          | (go_at_call 14; (with_reducible refine (k3.out _ ?_).mono ?_); (go_split_ands; assumption); rintro e w9 ⟨rfl, hb9⟩)
          | (go_at_call 15; (with_reducible refine (k4.out _ ?_).mono ?_); (go_split_ands; assumption); rintro e w10 ⟨rfl, hb10⟩)
          | (go_at_call 6; refine (alive_s10 (w4 := w6) ?_).mono ?_; (go_split_ands; assumption); rintro e w11 ⟨rfl, hb11⟩))
      all_goals go_wp2
      all_goals go_ret
      all_goals exact ⟨rfl, below_on HB.out hb11⟩

set_option maxRecDepth 100000 in
set_option maxHeartbeats 2000000 in
theorem locksPlay_any (c n : Int) (v : Value) (R : List (List Int)) (K x y : Int) (w : World) (hR : Recs w 3 v R) (hm : R.length ≤ maxLen) :
    Calls Try.prog 3 #[.int .i64 c, .int .i64 n, v, opV10 K x y] w fun e w' => e = .returned (.bool true) ∧ Below w.heap.size w w' := by
  unfold maxLen at hm
  have al := Lib.hid (fun W => alive10 W)
  by_cases h1 : 100 < R.length
  · obtain ⟨A, cc, rfl, hA⟩ := hR
    clear hA
    have h1' : (100 : Int) < (R.length : Int) := by omega
    unfold opV10
    go_enter Try.func3, Try.ntmps3
    go_wp2_with fail
    refine (al.out _).mono ?_
    rintro e w3 ⟨rfl, hb3⟩
    go_wp2
    go_ret
    exact ⟨rfl, below_on (below_al _ _) hb3⟩
  · by_cases h3 : c < 1 ∨ 8 < c ∨ n < 1 ∨ 16 < n
    · obtain ⟨A, cc, rfl, hA⟩ := hR
      clear hA
      have h1' : ¬ ((100 : Int) < (R.length : Int)) := by omega
      have nw := Lib.hid (fun W => new10_no c n W h3)
      have is := Lib.hid (fun W => ris10_no c n W h3)
      clear h3
      unfold opV10
      go_enter Try.func3, Try.ntmps3
      go_wp2_with fail
      refine (nw.out _).mono ?_
      rintro e w' ⟨rfl, rfl⟩
      go_wp2_with fail
      refine (is.out _).mono ?_
      rintro e w' ⟨rfl, rfl⟩
      go_wp2_with fail
      refine (al.out _).mono ?_
      rintro e w3 ⟨rfl, hb3⟩
      go_wp2
      go_ret
      exact ⟨rfl, below_on (below_al _ _) hb3⟩
    · obtain ⟨C, rfl⟩ := Int.eq_ofNat_of_zero_le (show 0 ≤ c by omega)
      obtain ⟨N, rfl⟩ := Int.eq_ofNat_of_zero_le (show 0 ≤ n by omega)
      exact locksPlay_main C N v R K x y w (by omega) (by omega) (by omega) (by omega) hR (by omega)

#print axioms locksPlay_any
end Go.Proofs.Ytdpoigeeechchaa
