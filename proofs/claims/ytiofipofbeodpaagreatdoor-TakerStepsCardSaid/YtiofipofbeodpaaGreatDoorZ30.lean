/-
  Texts merged, with what one theorem needs of them.
  Conditions: those that each theorem states.
-/
import Derived.Test.YtiofipofbeodpaaGreatDoorRows
import Derived.Test.YtiofipofbeodpaaGreatDoorZ1
import Derived.Test.YtiofipofbeodpaaGreatDoorZ2
import Derived.Test.YtiofipofbeodpaaGreatDoorZ3
import Derived.Test.YtiofipofbeodpaaGreatDoorZ4
import Derived.Test.YtiofipofbeodpaaGreatDoorZ5
import Derived.Test.YtiofipofbeodpaaGreatDoorZ6
import Derived.Test.YtiofipofbeodpaaGreatDoorZ7
import Derived.Test.YtiofipofbeodpaaGreatDoorZ8
import Derived.Test.YtiofipofbeodpaaGreatDoorZ9
import Derived.Test.YtiofipofbeodpaaGreatDoorZ10
import Derived.Test.YtiofipofbeodpaaGreatDoorZ11
import Derived.Test.YtiofipofbeodpaaGreatDoorZ12
import Derived.Test.YtiofipofbeodpaaGreatDoorZ13
import Derived.Test.YtiofipofbeodpaaGreatDoorZ14
import Derived.Test.YtiofipofbeodpaaGreatDoorZ15
import Derived.Test.YtiofipofbeodpaaGreatDoorZ16
import Derived.Test.YtiofipofbeodpaaGreatDoorZ17
import Derived.Test.YtiofipofbeodpaaGreatDoorZ18
import Derived.Test.YtiofipofbeodpaaGreatDoorZ19
import Derived.Test.YtiofipofbeodpaaGreatDoorZ20
import Derived.Test.YtiofipofbeodpaaGreatDoorZ21
import Derived.Test.YtiofipofbeodpaaGreatDoorZ22
import Derived.Test.YtiofipofbeodpaaGreatDoorZ23
import Derived.Test.YtiofipofbeodpaaGreatDoorZ24
import Derived.Test.YtiofipofbeodpaaGreatDoorZ25
import Derived.Test.YtiofipofbeodpaaGreatDoorZ26
import Derived.Test.YtiofipofbeodpaaGreatDoorZ27
import Derived.Test.YtiofipofbeodpaaGreatDoorZ28
import Derived.Test.YtiofipofbeodpaaGreatDoorZ29
import Derived.Below
import Derived.BigQuiet
import Derived.Carry
import Derived.ChangeSame
import Derived.Deep.AppendLies
import Derived.Deep.CutBlock
import Derived.Deep.DeepMust
import Derived.Deep.Draws
import Derived.Deep.Fields
import Derived.Deep.MidRow
import Derived.Deep.OwnRows
import Derived.Deep.QuietTactic
import Derived.Deep.RegionHeld3
import Derived.Deep.RegionLaw
import Derived.Deep.RegionWith
import Derived.Deep.Slices
import Derived.Defers
import Derived.Great.BuildSlice
import Derived.Handy
import Derived.IntWalk
import Derived.KernelRfl
import Derived.LaidLaws
import Derived.LaidMore
import Derived.Laws.BitsLemmas
import Derived.Laws.CopyOwn
import Derived.Laws.OwnMore
import Derived.Laws.Rows
import Derived.Lib.Hide
import Derived.Lib.SliceRun
import Derived.Lib.SmallJoins
import Derived.MakeChecks
import Derived.Maps.AppendAt
import Derived.OpenShut
import Derived.OwnWalk
import Derived.ProofKit
import Derived.Recover
import Derived.RegionTactic
import Derived.Scope
import Derived.WalkKit
import Derived.WalkMore
namespace Go.Proofs.YtiofipofbeodpaaGreatDoor

section
open Go.ChangeShapes Go.WideShapes Go.ChangeAt Go.RowKit
theorem Ls17.small {w wr : World} {g rb : Nat} {bs : List Value} {G : Tk} {V E : List Int} {v1 v2 : Value} {R : Tv} {vt vl : Value} {U P : Nat → Prop} (L : Ls17 w wr g rb bs G V E v1 v2 R vt vl U P) : Ls17 w wr g rb bs G V E v1 v2 R vt vl (fun x => U x ∧ x < wr.heap.size) P :=
  ⟨⟨L.lp.base, L.lp.kis.weak (U' := fun x => U x ∧ x < wr.heap.size) (fun _ hx hu => ⟨hu, hx⟩), L.lp.wld, fun x h => L.lp.disj x h.1, fun x h => L.lp.hU x h.1, L.lp.hP, L.lp.below⟩, L.ref, L.lists, L.rbn.1, fun h => L.rbn.2.1 h.1, L.rbn.2.2⟩
set_option maxRecDepth 100000 in
set_option maxHeartbeats 16000000 in
theorem steps17_loop (B self peer own : Int) (r : Nat) (v : Value) (l : List (List Int)) (w : World) (hok : ok17 B (r : Int) self peer own) (hT : TabAt w) (hv : Recs w 3 v l) (hfew : few17B B l.length = true) :
    Calls Tryz.prog 3 #[baseV17 B (r : Int) self peer own, v] w fun e w' => e = .returned (.bool true) ∧ Below w.heap.size w w' := by
  obtain ⟨h150, h500⟩ := few17_yes hfew
  obtain ⟨A, c, rfl, -⟩ := id hv
  have HV := Lib.hid hv
  obtain ⟨n, hn⟩ : ∃ n, l.length = n := ⟨_, rfl⟩
  rw [hn] at h150 hfew HV ⊢
  have HT := Lib.hid (fun W (hb : Below w.heap.size w W) => hT.below hb)
  obtain ⟨bs, hbs⟩ : ∃ bs : List Value, bs = [.int .i64 B, .int .i64 (r : Int), .int .i64 self, .int .i64 peer, .int .i64 own] := ⟨_, rfl⟩
  obtain ⟨G0, hG0⟩ : ∃ G0, G0 = new17 B r peer own := ⟨_, rfl⟩
  obtain ⟨R0, hR0⟩ : ∃ R0, R0 = tn17v B r self peer own := ⟨_, rfl⟩
  have HOK0 : Hid (Ok17 G0) := Lib.hid (by rw [hG0]; exact ok17_new hok)
  have HREL0 : Hid (Rel17 G0 R0) := Lib.hid (by rw [hG0, hR0]; exact rel17_new B r self peer own hok.2.2.2.2.2.1)
  have r0 := Row.new w 25 #[.int .i64 B, .int .i64 (r : Int), .int .i64 self, .int .i64 peer, .int .i64 own]
  have R00 : Hid (Row (w.alloc (.cells #[.int .i64 B, .int .i64 (r : Int), .int .i64 self, .int .i64 peer, .int .i64 own] 25)) w.heap.size 25 bs) := Lib.hid (by rw [hbs]; exact r0)
  have B0 := Lib.hid (below_al w (.cells #[.int .i64 B, .int .i64 (r : Int), .int .i64 self, .int .i64 peer, .int .i64 own] 25))
  have KM := Lib.hid (fun W => made17_yes hok W)
  rw [← hG0] at KM
  have KF := Lib.hid (fun W => few17_any B (r : Int) self peer own A n c W)
  rw [hfew] at KF
  have KI := Lib.hid (fun W => ris17_any B (r : Int) self peer own W)
  rw [decide_eq_true hok] at KI
  have hBB : 0 ≤ B ∧ B ≤ 65535 := by have := hok.2.1; omega
  have HN := Lib.hid hn
  obtain ⟨N, hN⟩ : ∃ N, B.toNat + (4 + 11 * r) = N := ⟨_, rfl⟩
  have hbd := hok.1.bd
  have hN2 : N ≤ 2000 := by omega
  have KNW := Lib.hid (fun W => rnew17_any B r self peer own (by omega) W)
  rw [← hR0] at KNW
  unfold TVP tvV at KNW
  have KZ := Lib.hid (fun W => size13_any (r : Int) W)
  rw [show sizeP (r : Int) = 4 + 11 * (r : Int) from if_pos hok.1] at KZ
  have hadd : B + (4 + 11 * (r : Int)) = (N : Int) := by omega
  have hwn : IntKind.i64.wrap (N : Int) = (N : Int) := IntWalk.i64_in _ (by omega)
  have hmk : ∀ W : World, (Instr.makeSlice 35 (.int .i64 (N : Int)) (.int .i64 (N : Int))).run Tryz.prog W = .ok (.slice (some ⟨W.heap.size, 0, none⟩) N N) (W.alloc (.cells (madeCells #[.int .i64 0] N) 3)) := fun W => run_make_row' (P := Tryz.prog) 35 3 (.int .i64 0) 8 Tryz.underlying35 int_info rfl .i64 .i64 N (by omega) (by omega) W
  have hmk8 : ∀ W : World, (Instr.makeSlice 35 (.int .i64 8) (.int .i64 8)).run Tryz.prog W = .ok (.slice (some ⟨W.heap.size, 0, none⟩) 8 8) (W.alloc (.cells (madeCells #[.int .i64 0] 8) 3)) := fun W => run_make_row' (P := Tryz.prog) 35 3 (.int .i64 0) 8 Tryz.underlying35 int_info rfl .i64 .i64 8 (by omega) (by omega) W
  have HC : Hid (∀ W, Row W w.heap.size 25 bs → W.cell? ⟨w.heap.size, 0, none⟩ = some (.int .i64 B) ∧ W.cell? ⟨w.heap.size, 1, none⟩ = some (.int .i64 (r : Int)) ∧ W.cell? ⟨w.heap.size, 2, none⟩ = some (.int .i64 self) ∧ W.cell? ⟨w.heap.size, 3, none⟩ = some (.int .i64 peer) ∧ W.cell? ⟨w.heap.size, 4, none⟩ = some (.int .i64 own)) := Lib.hid (fun W h => by rw [hbs] at h; exact ⟨h.cell 0, h.cell 1, h.cell 2, h.cell 3, h.cell 4⟩)
  have HSZ := Lib.hid (fun (H : Tv) (a b : Value) => (tv_size.trans (congrArg some (tv_len H a b).symm)))
  unfold baseV17 at *
  clear hv hT hfew hok hn hbs hG0 hR0 r0 hN
  go_enter Tryz.func3, Tryz.ntmps3
  go_wp2_with fail
  refine (KF.out _).mono ?_
  rintro e w1 ⟨rfl, b1⟩
  have R1 := Lib.hid (R00.out.below b1)
  have B1 := Lib.hid (below_on B0.out b1)
  obtain ⟨p0, p1, p2, p3, p4⟩ := HC.out _ R1.out
  clear b1 KF
  go_wp2_with fail
  refine (KM.out _).mono ?_
  rintro e w2 ⟨g, rfl, s2, b2⟩
  have S2 := Lib.hid s2
  have R2 := Lib.hid (R1.out.below b2)
  have B2 := Lib.hid (below_on B1.out b2)
  have hl1 := R1.out.lt
  obtain ⟨q0, q1, q2, q3, q4⟩ := HC.out _ R2.out
  have hl2 := R2.out.lt
  clear b2 s2 KM p0 p1 p2 p3 p4
  unfold ptr
  go_wp2_with fail
  refine (KI.out _).mono ?_
  rintro e w' ⟨rfl, rfl⟩
  have KBO : Hid (Calls Tryz.prog 8 #[.pointer (some ⟨g, 0, none⟩)] w2 fun e w' => e = .returned (.int .i64 15) ∧ w2 = w') := Lib.hid (by
    obtain ⟨s, vl, vg, rg, -⟩ := S2.out
    exact bound17_any w2)
  go_wp2_with fail
  refine KBO.out.mono ?_
  rintro e w' ⟨rfl, rfl⟩
  go_wp2_with fail
  refine (KNW.out _).mono ?_
  rintro e w3 ⟨At, nt, ct, Al, nl, cl, rfl, l3, b3⟩
  have L3 := Lib.hid l3
  have B3 := Lib.hid b3
  clear l3 b3 KNW KBO KI
  go_wp2_with (first
    | ((with_reducible refine alloc_walk (o := ⟨some 6, _, _, _, _, _⟩) rfl 37 rfl _ tv_zero ?_); go_must (intro w4 r4 b4 z4; have R4 := Lib.hid r4; have B4 := Lib.hid (below_on B3.out b4); have L4 := Lib.hid ((L3.out.weak (Q := fun x => w2.heap.size ≤ x ∧ x ≠ w3.heap.size) (fun x hx h => ⟨h.resolve_left (fun f => f), by omega⟩)).below b4); have Z4 := Lib.hid z4; clear r4 b4 z4))
    | ((with_reducible refine storeRow_walk rfl 37 (.tmp 6) (.tmp 71) rfl w3.heap.size rfl (tvC R0 (.slice At nt ct) (.slice Al nl cl)) rfl (HSZ.out _ _ _) 37 tvZ R4.out rfl (tv_one _) ?_); intro w5 r5 o5 z5; have R5 := Lib.hid r5; have B5 := Lib.hid (Only.below B4.out o5 B4.out.size (fun x hx e => by have := B3.out.size; omega)); have L5 := Lib.hid (L4.out.only o5 (fun x e p => p.2 e)); have Z5 := Lib.hid o5.size; have RB5 := Lib.hid (R2.out.below B5.out); obtain ⟨u0, u1, u2, u3, u4⟩ := HC.out _ RB5.out; clear r5 o5 z5))
  obtain ⟨rb, hrb⟩ : ∃ rb, w3.heap.size = rb := ⟨_, rfl⟩
  have HRB := Lib.hid hrb
  have HI0 : Hid (∀ w6 X1 X2, Below w5.heap.size w5 w6 → Row w6 X1 3 (ints (List.replicate N 0)) → Row w6 X2 3 (ints (List.replicate 8 0)) → w5.heap.size ≤ X1 → w5.heap.size ≤ X2 → Inv17s w w6 g rb bs G0 N (.slice (some ⟨X1, 0, none⟩) N N) (.slice (some ⟨X2, 0, none⟩) 8 8)) := Lib.hid (fun w6 X1 X2 hb x1 x2 h1 h2 => by
    have e := HRB.out
    have z4 := Z4.out
    have z5 := Z5.out
    have z3 := B3.out.size
    have hl1' := hl1
    have hl2' := hl2
    have ww1 := B1.out.size
    subst e
    have l1 := Lies.of_row (P := fun x => w2.heap.size ≤ x ∧ x ≠ w3.heap.size) x1 (by constructor <;> omega) N
    have l2 := Lies.of_row (P := fun x => w2.heap.size ≤ x ∧ x ≠ w3.heap.size) x2 (by constructor <;> omega) 8
    rw [ints_len, List.length_replicate] at l1 l2
    refine ⟨G0, _, _, R0, At, nt, ct, Al, nl, cl, (fun x => w.heap.size < x ∧ x < w2.heap.size), (fun x => w2.heap.size ≤ x ∧ x ≠ w3.heap.size), HOK0.out, ⟨rfl, rfl, rfl, rfl⟩, List.length_replicate, List.length_replicate, HREL0.out, ⟨⟨RB5.out.below hb, ?_, ⟨l1, l2, by unfold CapOk; omega, by unfold CapOk; omega⟩, fun x h1 h2 => by omega, fun x hx => hx.1, fun x hx => by omega, below_on B2.out (below_on B5.out hb)⟩, R5.out.below hb, L5.out.below hb, by omega, fun h => by omega, fun h => h.2 rfl⟩⟩
    exact ((S2.out.weak (U' := fun x => w.heap.size < x ∧ x < w2.heap.size) (fun x hx h => ⟨by omega, hx⟩)).below B5.out).below hb)
  have HI1 : Hid (Inv17s w (((w5.alloc (.cells (madeCells #[.int .i64 0] N) 3)).alloc (.cells (madeCells #[.int .i64 0] 8) 3))) g rb bs G0 N (.slice (some ⟨w5.heap.size, 0, none⟩) N N) (.slice (some ⟨w5.heap.size + 1, 0, none⟩) 8 8)) := Lib.hid (by
    have y1 := Row.new w5 3 (madeCells #[.int .i64 0] N)
    have y2 := Row.new (w5.alloc (.cells (madeCells #[.int .i64 0] N) 3)) 3 (madeCells #[.int .i64 0] 8)
    rw [ints_zeros] at y1 y2
    rw [size_al] at y2
    exact HI0.out _ _ _ (below_on (below_al _ _) (below_al _ _)) (y1.below (below_al _ _)) y2 (Nat.le_refl _) (by omega))
  have HI2 : Hid (Inv17s w (((w5.alloc (.cells (madeCells #[.int .i64 0] 8) 3)).alloc (.cells (madeCells #[.int .i64 0] N) 3))) g rb bs G0 N (.slice (some ⟨w5.heap.size + 1, 0, none⟩) N N) (.slice (some ⟨w5.heap.size, 0, none⟩) 8 8)) := Lib.hid (by
    have y1 := Row.new w5 3 (madeCells #[.int .i64 0] 8)
    have y2 := Row.new (w5.alloc (.cells (madeCells #[.int .i64 0] 8) 3)) 3 (madeCells #[.int .i64 0] N)
    rw [ints_zeros] at y1 y2
    rw [size_al] at y2
    exact HI0.out _ _ _ (below_on (below_al _ _) (below_al _ _)) y2 (y1.below (below_al _ _)) (by omega) (Nat.le_refl _))
  have HIL : Hid (∀ w4 v1 v2, Inv17s w w4 g rb bs G0 N v1 v2 → Inv17s w w4.drew g rb bs G0 N v1 v2) := Lib.hid (fun w4 v1 v2 ⟨G, V, E, R, a, b, c, d, e, f, U, P, h1, h2, h3, h4, h5, h6⟩ => ⟨G, V, E, R, a, b, c, d, e, f, U, P, h1, h2, h3, h4, h5, h6.quiet (Below.refl _ _).drew⟩)
  rw [hrb]
  clear q0 q1 q2 q3 q4 S2 R1 R2 B2 B1 B0 R00 B3 B4 B5 L3 L4 L5 R4 R5 RB5 Z4 Z5 HRB hrb hl1 hl2 HREL0 u2 u3 u4
  generalize hQ : w.heap.size = Q at *
  go_wp2
  refine' (fun (key : PLift (_ : Prop)) => ?main) ⟨?loop⟩
  case main =>
    go_region_held3 (fun W => W.cell? ⟨Q, 0, none⟩ = some (.int .i64 B) ∧ W.cell? ⟨Q, 1, none⟩ = some (.int .i64 (r : Int)))
      (first | go_keep)
      (first
        | (go_at_call 10; refine (KZ.out _).mono ?_; rintro e w' ⟨rfl, rfl⟩))
    all_goals first
      | (have I := HIL.out _ _ _ HI1.out
         generalize ((((w5.alloc (.cells (madeCells #[.int .i64 0] N) 3)).alloc (.cells (madeCells #[.int .i64 0] 8) 3))).drew) = W at I ⊢
         generalize (some ⟨w5.heap.size, 0, none⟩ : Option Addr) = X1 at I ⊢
         generalize (some ⟨w5.heap.size + 1, 0, none⟩ : Option Addr) = X2 at I ⊢
         revert I
         revert W
         revert X2
         revert X1
         exact key.down)
      | (have I := HIL.out _ _ _ HI2.out
         generalize ((((w5.alloc (.cells (madeCells #[.int .i64 0] 8) 3)).alloc (.cells (madeCells #[.int .i64 0] N) 3))).drew) = W at I ⊢
         generalize (some ⟨w5.heap.size + 1, 0, none⟩ : Option Addr) = X1 at I ⊢
         generalize (some ⟨w5.heap.size, 0, none⟩ : Option Addr) = X2 at I ⊢
         revert I
         revert W
         revert X2
         revert X1
         exact key.down)
  subst hQ
  clear HI0 HI1 HI2 HIL HOK0 hmk hmk8 KZ u0 u1
  intro X1 X2 W0 I0
  have HI := Lib.hid I0
  clear I0
  go_wp2
  go_loopw [7, 8, 84] (fun wv ev iv wr => ∃ (k : Nat) (A1 : Option Addr) (n1 c1 : Nat) (A2 : Option Addr) (n2 c2 : Nat), k ≤ n ∧ iv = .int .i64 k ∧ wv = .slice A1 n1 c1 ∧ ev = .slice A2 n2 c2 ∧ Hid (Inv17s w wr g rb bs G0 N (.slice A1 n1 c1) (.slice A2 n2 c2))) (fun _ _ iv _ => n - (intOf iv).toNat)
  case atStart => exact ⟨0, _, _, _, _, _, _, Nat.zero_le _, rfl, rfl, rfl, HI⟩
  case round =>
    clear HI
    obtain ⟨k, A1, n1, c1, A2, n2, c2, hk, rfl, rfl, rfl, HI⟩ := hrel
    by_cases hlt : k < n
    · obtain ⟨Gg, Vw, Ew, Rr, At1, nt1, ct1, Al1, nl1, cl1, U, P, hOK, hSM, hVN, hE8, hRL, L⟩ := HI.out
      have hbw := L.lp.below
      obtain ⟨ad, c', K, a, x, hx, hA, hbd, x0, x1, x2, hadl⟩ := HV.out.three hbw (by rw [HN.out]; exact hlt)
      obtain rfl : A = some ad := by injection hA
      have hkn : (k : Int) < (n : Int) := by omega
      have hkN := Lib.hid hlt
      have bx := below_al wr (.cells #[.int .i64 K, .int .i64 a, .int .i64 x] 41)
      obtain ⟨U2, hU2⟩ : ∃ U2 : Nat → Prop, U2 = (fun x => U x ∧ x < wr.heap.size) := ⟨_, rfl⟩
      have lx0 := L.small
      rw [← hU2] at lx0
      have lx := lx0.quiet bx
      have rx := Row.new wr 41 #[.int .i64 K, .int .i64 a, .int .i64 x]
      obtain ⟨wx, hwx⟩ : ∃ wx, wx = (wr.alloc (.cells #[.int .i64 K, .int .i64 a, .int .i64 x] 41)) := ⟨_, rfl⟩
      obtain ⟨xb, hxb⟩ : ∃ xb, xb = wr.heap.size := ⟨_, rfl⟩
      rw [← hwx] at lx bx rx
      rw [← hxb] at rx
      have LX := Lib.hid lx
      have BX := Lib.hid bx
      have RX := Lib.hid rx
      have HXB := Lib.hid hxb
      have HNX : Hid (¬ U2 xb) := Lib.hid (by rw [hU2, hxb]; exact fun h => Nat.lt_irrefl _ h.2)
      have HOK := Lib.hid hOK
      have HSM := Lib.hid hSM
      have HLN := Lib.hid (And.intro hVN hE8)
      have HRL := Lib.hid hRL
      have HEB := Lib.hid (show rb < wr.heap.size from L.ref.lt)
      clear hx hA L hOK hSM hVN hE8 hRL hbw HI HV HN hbd bx lx rx lx0 hU2
      go_upto_block 2 with fail
      rw [← hwx, ← hxb]
      have e0 := RX.out.cell 0
      have e1 := RX.out.cell 1
      have e2 := RX.out.cell 2
      obtain ⟨b0, b1, b2, b3, b4⟩ := HC.out wx LX.out.lp.base
      simp only [List.getElem?_cons_zero, List.getElem?_cons_succ] at e0 e1 e2
      clear hwx hxb x0 x1 x2 hadl
      go_cut [7, 8, 84] from 85 to 221 (fun wv ev iv wc => iv = .int .i64 (k : Int) ∧ (∃ (A3 : Option Addr) (n3 c3 : Nat) (A4 : Option Addr) (n4 c4 : Nat), wv = .slice A3 n3 c3 ∧ ev = .slice A4 n4 c4 ∧ Hid (Inv17s w wc g rb bs G0 N (.slice A3 n3 c3) (.slice A4 n4 c4))) ∧ Hid (Row wc xb 41 [.int .i64 K, .int .i64 a, .int .i64 x]))
      case rest =>
        obtain ⟨rfl, ⟨A3, n3, c3, A4, n4, c4, rfl, rfl, HIE⟩, HRE⟩ := hcut
        clear LX BX RX HXB HNX HOK HSM HLN HRL HEB e0 e1 e2 b0 b1 b2 b3 b4
        as_aux_lemma =>
         obtain ⟨GE, VE, EE, RE, AtE, ntE, ctE, AlE, nlE, clE, UE, PE, OKE, SME, VNE, EEE, RLE, LE⟩ := HIE.out
         obtain ⟨sq, vlq, vgq, rgq, -⟩ := LE.lp.kis
         have hRb := OKE.R.bd
         have KL := Lib.hid (like17_any PE GE RE x wc rgq LE.lists RLE rgq.tab.gen (by have := OKE.tab; omega) (by have := OKE.gl; omega))
         unfold tvV at KL
         have HREF := Lib.hid LE.ref
         have y2 := HRE.out.cell 2
         simp only [List.getElem?_cons_zero, List.getElem?_cons_succ] at y2
         have HIW := Lib.hid (fun W (hb : Below wc.heap.size wc W) => (⟨GE, VE, EE, RE, AtE, ntE, ctE, AlE, nlE, clE, UE, PE, OKE, SME, VNE, EEE, RLE, LE.quiet hb⟩ : Inv17s w W g rb bs G0 N (.slice A3 n3 c3) (.slice A4 n4 c4)))
         clear OKE SME VNE EEE RLE LE rgq hRb HIE
         go_wp2_with (first
           | (with_reducible refine loadRow_walk rfl 37 (.tmp 6) rfl rb rfl (tvC RE (.slice AtE ntE ctE) (.slice AlE nlE clE)) tv_struct (HSZ.out _ _ _) 37 HREF.out ?_)
           | (go_at_call 25; refine KL.out.mono ?_; rintro e w9 ⟨rfl, b9⟩; have I9 := Lib.hid (HIW.out w9 b9); clear b9))
         go_roundw
         case rel => exact ⟨k + 1, _, _, _, _, _, _, by omega, by go_num, rfl, rfl, I9⟩
         case measure => simp [intOf]; omega
      case first =>
        by_cases hk1 : K = 1
        · have g1 : (K == 1) = true := by simpa using hk1
          clear hk1
          as_aux_lemma =>
           have KSR := Lib.hid (trecv_rel P Gg Rr wx LX.out.lists HRL.out)
           unfold TVA tvV at KSR
           obtain ⟨ee, hee⟩ : ∃ ee, recE17 Gg = ee := ⟨_, rfl⟩
           obtain ⟨R2, hR2⟩ : ∃ R2, rrcN Gg Rr = R2 := ⟨_, rfl⟩
           rw [hee, hR2] at KSR
           have HRL2 : Hid (Rel17 (recT17 Gg) R2) := Lib.hid (by rw [← hR2]; exact rel17_rcN HRL.out)
           have HPS := Lib.hid (fun W (s : KIs W (fun y => U2 y ∧ y < wx.heap.size) g Gg) => by
             have := recvS17 W s
             rw [hee] at this
             exact this)
           clear hee hR2
           go_wp2_with (first
             | (with_reducible refine loadRow_walk rfl 37 (.tmp 6) rfl rb rfl (tvC Rr (.slice At1 nt1 ct1) (.slice Al1 nl1 cl1)) tv_struct (HSZ.out _ _ _) 37 LX.out.ref ?_))
           refine KSR.out.mono ?_
           rintro e w4 ⟨At2, nt2, ct2, Al2, nl2, cl2, rfl, l4, b4⟩
           have L4 := Lib.hid (l4.weak (Q := fun y => (P y ∨ wx.heap.size ≤ y) ∧ y < w4.heap.size) (fun y hy p => ⟨p, hy⟩))
           have B4 := Lib.hid b4
           have S4 := Lib.hid b4.size
           clear l4 b4 KSR
           go_wp2_with (first
             | ((with_reducible refine alloc_walk (o := ⟨some 11, _, _, _, _, _⟩) rfl 37 rfl _ tv_zero ?_); go_must (intro w5 r5 b5 z5; have R5 := Lib.hid r5; have B5 := Lib.hid b5; clear r5 b5 z5))
             | ((with_reducible refine storeRow_walk rfl 37 (.tmp 11) (.tmp 166) rfl w4.heap.size rfl (tvC R2 (.slice At2 nt2 ct2) (.slice Al2 nl2 cl2)) rfl (HSZ.out _ _ _) 37 tvZ R5.out rfl (tv_one _) ?_); intro w6 r6 o6 z6; have R6 := Lib.hid r6; have O6 := Lib.hid o6; have L6 := Lib.hid ((L4.out.below B5.out).only o6 (fun y e p => by omega)); have B6 := Lib.hid (Only.below (below_on B4.out B5.out) o6 (by have := S4.out; have := B5.out.size; omega) (fun y hy e => by have := S4.out; omega)); have RB6 := Lib.hid ((LX.out.ref.below (below_on B4.out B5.out)).only o6 (fun e => by have := LX.out.ref.lt; have := S4.out; omega)); have RE6 := Lib.hid ((RX.out.below (below_on B4.out B5.out)).only o6 (fun e => by have := RX.out.lt; have := S4.out; omega)); clear r6 o6 z6)
             | (with_reducible refine loadRow_walk rfl 37 (.tmp 11) rfl w4.heap.size rfl (tvC R2 (.slice At2 nt2 ct2) (.slice Al2 nl2 cl2)) tv_struct (HSZ.out _ _ _) 37 R6.out ?_)
             | ((with_reducible refine storeRow_walk rfl 37 (.tmp 6) (.tmp 168) rfl rb rfl (tvC R2 (.slice At2 nt2 ct2) (.slice Al2 nl2 cl2)) rfl (HSZ.out _ _ _) 37 _ RB6.out rfl (tv_one _) ?_); intro w7 r7 o7 z7; have L7 := Lib.hid (LX.out.refer B6.out (L6.out.weak (fun y hy p => p.1)) r7 o7); have RE7 := Lib.hid (RE6.out.only o7 (fun e => by have := HEB.out; have := HXB.out; omega)); clear r7 o7 z7)
             | (refine (HPS.out _ L7.out.lp.kis).mono ?_; rintro e w8 ⟨rfl, s8, o8⟩; have HIE : Hid (Inv17s w w8 g rb bs G0 N (.slice A1 n1 c1) (.slice A2 n2 c2)) := Lib.hid ⟨_, _, _, _, _, _, _, _, _, _, _, _, ok17_rec HOK.out, HSM.out.trans (same17_rec _), HLN.out.1, HLN.out.2, HRL2.out, L7.out.taker s8 o8⟩; have HRE := Lib.hid (RE7.out.only o8 (fun h => HNX.out h.1)); clear s8 o8))
           go_wp2
           go_meet
           case rel => exact ⟨rfl, ⟨_, _, _, _, _, _, rfl, rfl, HIE⟩, HRE⟩
        · have g1 : (K == 1) = false := by simpa using hk1
          by_cases hk2 : K = 2
          · have g2 : (K == 2) = true := by simpa using hk2
            clear hk1 hk2
            as_aux_lemma =>
             have hwd : Wd15 Gg.tab := by
               obtain ⟨s, vl, vg, rg, -⟩ := LX.out.lp.kis
               exact rg.tab.gen
             have h64 : Gg.tab.length ≤ 64 := by have := HOK.out.tab; have := HOK.out.R.bd; omega
             have KHD := Lib.hid (rhandle15_any P _ Rr.tab x wx LX.out.lists.tab (by rw [HRL.out.tab]; exact h64) (by rw [HRL.out.tab]; exact hwd))
             obtain ⟨hh, hhh⟩ : ∃ hh, hanL15 Rr.tab x = hh := ⟨_, rfl⟩
             rw [hhh] at KHD
             have KSR := Lib.hid (fun W (hb : Below wx.heap.size wx W) => trel_rel P Gg Rr hh W (LX.out.lists.below hb) HRL.out hwd h64)
             unfold TVA tvV at KSR
             obtain ⟨ee, hee⟩ : ∃ ee, relE17 Gg hh = ee := ⟨_, rfl⟩
             obtain ⟨R2, hR2⟩ : ∃ R2, rrlN Gg Rr hh = R2 := ⟨_, rfl⟩
             rw [hee, hR2] at KSR
             have HRL2 : Hid (Rel17 (relT17 Gg hh) R2) := Lib.hid (by rw [← hR2]; exact rel17_rlN HRL.out hwd hh)
             have HPS := Lib.hid (fun W (s : KIs W (fun y => U2 y ∧ y < wx.heap.size) g Gg) => by
               have := releaseS17 hh W s
               rw [hee] at this
               exact this)
             have z9 := LX.out.ref.cell 9
             simp only [tvC, List.getElem?_cons_zero, List.getElem?_cons_succ] at z9
             clear hee hR2 hhh hwd h64
             go_wp2_with fail
             refine KHD.out.mono ?_
             rintro e wh ⟨rfl, bh⟩
             have BH := Lib.hid bh
             have RH := Lib.hid (LX.out.ref.below bh)
             clear bh KHD
             go_wp2_with (first
               | (with_reducible refine loadRow_walk rfl 37 (.tmp 6) rfl rb rfl (tvC Rr (.slice At1 nt1 ct1) (.slice Al1 nl1 cl1)) tv_struct (HSZ.out _ _ _) 37 RH.out ?_))
             refine (KSR.out _ BH.out).mono ?_
             rintro e w4 ⟨At2, nt2, ct2, Al2, nl2, cl2, rfl, l4, b4'⟩
             have hsh := BH.out.size
             have L4 := Lib.hid (l4.weak (Q := fun y => (P y ∨ wx.heap.size ≤ y) ∧ y < w4.heap.size) (fun y hy p => ⟨p.imp id (fun h => by omega), hy⟩))
             have B4 := Lib.hid (below_on BH.out b4')
             have S4 := Lib.hid (below_on BH.out b4').size
             clear l4 b4' KSR hsh
             go_wp2_with (first
               | ((with_reducible refine alloc_walk (o := ⟨some 14, _, _, _, _, _⟩) rfl 37 rfl _ tv_zero ?_); go_must (intro w5 r5 b5 z5; have R5 := Lib.hid r5; have B5 := Lib.hid b5; clear r5 b5 z5))
               | ((with_reducible refine storeRow_walk rfl 37 (.tmp 14) (.tmp 184) rfl w4.heap.size rfl (tvC R2 (.slice At2 nt2 ct2) (.slice Al2 nl2 cl2)) rfl (HSZ.out _ _ _) 37 tvZ R5.out rfl (tv_one _) ?_); intro w6 r6 o6 z6; have R6 := Lib.hid r6; have O6 := Lib.hid o6; have L6 := Lib.hid ((L4.out.below B5.out).only o6 (fun y e p => by omega)); have B6 := Lib.hid (Only.below (below_on B4.out B5.out) o6 (by have := S4.out; have := B5.out.size; omega) (fun y hy e => by have := S4.out; omega)); have RB6 := Lib.hid ((LX.out.ref.below (below_on B4.out B5.out)).only o6 (fun e => by have := LX.out.ref.lt; have := S4.out; omega)); have RE6 := Lib.hid ((RX.out.below (below_on B4.out B5.out)).only o6 (fun e => by have := RX.out.lt; have := S4.out; omega)); clear r6 o6 z6)
               | (with_reducible refine loadRow_walk rfl 37 (.tmp 14) rfl w4.heap.size rfl (tvC R2 (.slice At2 nt2 ct2) (.slice Al2 nl2 cl2)) tv_struct (HSZ.out _ _ _) 37 R6.out ?_)
               | ((with_reducible refine storeRow_walk rfl 37 (.tmp 6) (.tmp 186) rfl rb rfl (tvC R2 (.slice At2 nt2 ct2) (.slice Al2 nl2 cl2)) rfl (HSZ.out _ _ _) 37 _ RB6.out rfl (tv_one _) ?_); intro w7 r7 o7 z7; have L7 := Lib.hid (LX.out.refer B6.out (L6.out.weak (fun y hy p => p.1)) r7 o7); have RE7 := Lib.hid (RE6.out.only o7 (fun e => by have := HEB.out; have := HXB.out; omega)); clear r7 o7 z7)
               | (refine (HPS.out _ L7.out.lp.kis).mono ?_; rintro e w8 ⟨rfl, s8, o8⟩; have HIE : Hid (Inv17s w w8 g rb bs G0 N (.slice A1 n1 c1) (.slice A2 n2 c2)) := Lib.hid ⟨_, _, _, _, _, _, _, _, _, _, _, _, ok17_rel HOK.out hh, HSM.out.trans (same17_rel _ hh), HLN.out.1, HLN.out.2, HRL2.out, L7.out.taker s8 o8⟩; have HRE := Lib.hid (RE7.out.only o8 (fun h => HNX.out h.1)); clear s8 o8))
             go_wp2
             go_meet
             case rel => exact ⟨rfl, ⟨_, _, _, _, _, _, rfl, rfl, HIE⟩, HRE⟩
          · have g2 : (K == 2) = false := by simpa using hk2
            by_cases hk3 : K = 3
            · have g3 : (K == 3) = true := by simpa using hk3
              clear hk1 hk2 hk3
              as_aux_lemma =>
               by_cases ha0 : 0 ≤ a
               · obtain ⟨rm, hrm, hr0, hr1⟩ : ∃ rm, a.tmod 100000 = rm ∧ 0 ≤ rm ∧ rm ≤ 99999 := by
                   refine ⟨_, rfl, ?_⟩
                   rw [Int.tmod_eq_emod_of_nonneg ha0]
                   omega
                 have hrw : wrap64 rm = rm := by rw [← IntWalk.i64_left, IntWalk.i64_in _ (by omega)]
                 have hg0 : decide (0 ≤ a) = true := by simpa using ha0
                 have KS := Lib.hid (set17_any P Vw (.slice A1 n1 c1) (B + rm) x wx LX.out.lp.wld.words LX.out.lp.wld.c1 (by have := HLN.out.1; omega))
                 have HI : Hid (∀ w6 u, Below wx.heap.size wx w6 → w6.ownsRow wx.heap.size 3 1 u (put14 Vw (B + rm) x).length (ints (put14 Vw (B + rm) x)) → Inv17s w w6 g rb bs G0 N u (.slice A2 n2 c2)) := Lib.hid (fun w6 u b6 o6 => ⟨_, _, _, _, _, _, _, _, _, _, _, _, HOK.out, HSM.out, by rw [put14_len]; exact HLN.out.1, HLN.out.2, HRL.out, LX.out.setV b6 o6⟩)
                 go_wp2_with fail
                 refine KS.out.mono ?_
                 rintro e w6 ⟨u6, rfl, o6, b6⟩
                 have HI6 := Lib.hid (HI.out w6 u6 b6 o6)
                 have HRE := Lib.hid (RX.out.below b6)
                 obtain ⟨A6, c6, rfl⟩ := own_open14 o6
                 have HIE := HI6
                 clear o6 b6 KS HI HI6
                 go_wp2
                 go_meet
                 case rel => exact ⟨rfl, ⟨_, _, _, _, _, _, rfl, rfl, HIE⟩, HRE⟩
               · have hg0 : decide (0 ≤ a) = false := by simpa using ha0
                 have HIE : Hid (Inv17s w wx g rb bs G0 N (.slice A1 n1 c1) (.slice A2 n2 c2)) := Lib.hid ⟨_, _, _, _, _, _, _, _, _, _, _, _, HOK.out, HSM.out, HLN.out.1, HLN.out.2, HRL.out, LX.out⟩
                 have HRE := RX
                 go_wp2
                 go_meet
                 case rel => exact ⟨rfl, ⟨_, _, _, _, _, _, rfl, rfl, HIE⟩, HRE⟩
            · have g3 : (K == 3) = false := by simpa using hk3
              by_cases hk4 : K = 4
              · have g4 : (K == 4) = true := by simpa using hk4
                clear hk1 hk2 hk3 hk4
                as_aux_lemma =>
                 have KS := Lib.hid (set17_any P Ew (.slice A2 n2 c2) a x wx LX.out.lp.wld.epochs LX.out.lp.wld.c2 (by have := HLN.out.2; omega))
                 have HI : Hid (∀ w6 u, Below wx.heap.size wx w6 → w6.ownsRow wx.heap.size 3 1 u (put14 Ew a x).length (ints (put14 Ew a x)) → Inv17s w w6 g rb bs G0 N (.slice A1 n1 c1) u) := Lib.hid (fun w6 u b6 o6 => ⟨_, _, _, _, _, _, _, _, _, _, _, _, HOK.out, HSM.out, HLN.out.1, by rw [put14_len]; exact HLN.out.2, HRL.out, LX.out.setE b6 o6⟩)
                 go_wp2_with fail
                 refine KS.out.mono ?_
                 rintro e w6 ⟨u6, rfl, o6, b6⟩
                 have HIE := Lib.hid (HI.out w6 u6 b6 o6)
                 have HRE := Lib.hid (RX.out.below b6)
                 obtain ⟨A6, c6, rfl⟩ := own_open14 o6
                 clear o6 b6 KS HI
                 go_wp2
                 go_meet
                 case rel => exact ⟨rfl, ⟨_, _, _, _, _, _, rfl, rfl, HIE⟩, HRE⟩
              · have g4 : (K == 4) = false := by simpa using hk4
                clear hk1 hk2 hk3 hk4
                as_aux_lemma =>
                 have hVm := mod14_bd Vw
                 have hEm := mod14_bd Ew
                 have hVl : (mod14 Vw).length ≤ 65536 := by rw [mod14_len]; have := HLN.out; omega
                 have KOF := Lib.hid (fun W (hb : Below wx.heap.size wx W) => rof14_any P P Vw Ew (.slice A1 n1 c1) (.slice A2 n2 c2) W (LX.out.lp.wld.words.below hb) (LX.out.lp.wld.epochs.below hb) (by have := HLN.out; omega) (by have := HLN.out; omega))
                 have KST := Lib.hid (fun W Q C1 m1 e1 C2 m2 e2 (hb : Below wx.heap.size wx W) (ho : RPl14 W Q (mod14 Vw) (mod14 Ew) [] (.slice C1 m1 e1) (.slice C2 m2 e2) (.slice none 0 0)) => tstep_all (fun y => P y ∧ y < wx.heap.size) Q Gg Rr (mod14 Vw) (mod14 Ew) W ((LX.out.lists.weak (Q := fun y => P y ∧ y < wx.heap.size) (fun _ h p => And.intro p h)).below hb) ho HRL.out HOK.out hVl hVm hEm)
                 have HRL2 := Lib.hid (sR17_rel HRL.out HOK.out hVm hEm)
                 have HONE := Lib.hid (sT17_one HOK.out (mod14 Vw) (mod14 Ew))
                 obtain ⟨sA, hsA⟩ : ∃ sA, sA17 Gg (mod14 Vw) (mod14 Ew) = sA := ⟨_, rfl⟩
                 obtain ⟨sG, hsG⟩ : ∃ sG, sG17 Gg (mod14 Vw) (mod14 Ew) = sG := ⟨_, rfl⟩
                 obtain ⟨R2, hsR⟩ : ∃ R2, sR17 Gg Rr (mod14 Vw) (mod14 Ew) = R2 := ⟨_, rfl⟩
                 obtain ⟨sV, hsV⟩ : ∃ sV, sV17 Gg (mod14 Vw) = sV := ⟨_, rfl⟩
                 obtain ⟨sK, hsK⟩ : ∃ sK, sK17 Gg = sK := ⟨_, rfl⟩
                 obtain ⟨sT, hsT⟩ : ∃ sT, sT17 Gg (mod14 Vw) (mod14 Ew) = sT := ⟨_, rfl⟩
                 obtain ⟨xX, hsX⟩ : ∃ xX, sX17 Gg (mod14 Vw) (mod14 Ew) = xX := ⟨_, rfl⟩
                 have HOKG : Hid (Ok17 sG) := Lib.hid (by rw [← hsG]; exact sG17_ok HOK.out _ _)
                 have HSMG : Hid (Same17 G0 sG) := Lib.hid (by rw [← hsG]; exact HSM.out.trans (sG17_same _ _ _))
                 have HVL : Hid (sV.length = N) := Lib.hid (by rw [← hsV, sV17_len, mod14_len]; exact HLN.out.1)
                 have KPS := Lib.hid (fun W (t : Nat × Nat) (p : Nat) (s : Sys17 W (fun y => (U2 y ∧ y < wx.heap.size) ∨ t.1 ≤ y) g t.2 p Gg (mod14 Vw) (mod14 Ew) [] []) (hb : Below w.heap.size w W) => qstep_all (U := fun y => (U2 y ∧ y < wx.heap.size) ∨ t.1 ≤ y) Gg (mod14 Vw) (mod14 Ew) W s HOK.out (HT.out W hb))
                 rw [hsG, hsR] at HRL2
                 rw [hsT, hsX] at HONE
                 rw [hsA, hsR, hsV, hsK, hsX] at KST
                 rw [hsA, hsG, hsV, hsK, hsT] at KPS
                 unfold ansV17 at KPS
                 obtain ⟨bA, hbA⟩ : ∃ bA, sA.isSome = bA := ⟨_, rfl⟩
                 obtain ⟨nA, hnA⟩ : ∃ nA, sA.getD 0 = nA := ⟨_, rfl⟩
                 rw [hbA, hnA] at KST KPS
                 unfold TStp tvV touchV at KST
                 unfold tface14 at KPS
                 have HBS14 : Hid (∀ W, Below wx.heap.size wx W → Row W rb 37 (tvC Rr (.slice At1 nt1 ct1) (.slice Al1 nl1 cl1))) := Lib.hid (fun W hb => LX.out.ref.below hb)
                 have hxbs := BX.out.size
                 clear hsA hsG hsR hsV hsK hsT hsX hbA hnA hVm hEm hVl
                 go_wp2
                 have hB0 : Below wx.heap.size wx wx.drew := (Below.refl _ _).drew
                 have hS0 := HBS14.out _ hB0
                 refine wp_region_held_drew (S := fun W => Row W rb 37 (tvC Rr (.slice At1 nt1 ct1) (.slice Al1 nl1 cl1))) (by kernel_rfl) hS0 (fun hHeld => ?_)
                 clear hHeld
                 generalize wx.drew = W at hB0 hS0 ⊢
                 refine' (fun (k3_4_11_12_13 : PLift (_ : Prop)) => ?mk3_4_11_12_13) ⟨?lk3_4_11_12_13⟩
                 refine' (fun (k3_4_12_13 : PLift (_ : Prop)) => ?mk3_4_12_13) ⟨?lk3_4_12_13⟩
                 refine' (fun (k3_4_11_13 : PLift (_ : Prop)) => ?mk3_4_11_13) ⟨?lk3_4_11_13⟩
                 refine' (fun (k3_4_11_12 : PLift (_ : Prop)) => ?mk3_4_11_12) ⟨?lk3_4_11_12⟩
                 refine' (fun (k3_4_13 : PLift (_ : Prop)) => ?mk3_4_13) ⟨?lk3_4_13⟩
                 refine' (fun (k3_4_12 : PLift (_ : Prop)) => ?mk3_4_12) ⟨?lk3_4_12⟩
                 refine' (fun (k3_4_11 : PLift (_ : Prop)) => ?mk3_4_11) ⟨?lk3_4_11⟩
                 refine' (fun (k3_4 : PLift (_ : Prop)) => ?mk3_4) ⟨?lk3_4⟩
                 refine' (fun (k3_11_12_13 : PLift (_ : Prop)) => ?mk3_11_12_13) ⟨?lk3_11_12_13⟩
                 refine' (fun (k11_12_13 : PLift (_ : Prop)) => ?mk11_12_13) ⟨?lk11_12_13⟩
                 refine' (fun (k3_12_13 : PLift (_ : Prop)) => ?mk3_12_13) ⟨?lk3_12_13⟩
                 refine' (fun (k3_11_13 : PLift (_ : Prop)) => ?mk3_11_13) ⟨?lk3_11_13⟩
                 refine' (fun (k3_11_12 : PLift (_ : Prop)) => ?mk3_11_12) ⟨?lk3_11_12⟩
                 refine' (fun (k12_13 : PLift (_ : Prop)) => ?mk12_13) ⟨?lk12_13⟩
                 refine' (fun (k11_13 : PLift (_ : Prop)) => ?mk11_13) ⟨?lk11_13⟩
                 refine' (fun (k11_12 : PLift (_ : Prop)) => ?mk11_12) ⟨?lk11_12⟩
                 refine' (fun (k3_13 : PLift (_ : Prop)) => ?mk3_13) ⟨?lk3_13⟩
                 refine' (fun (k3_12 : PLift (_ : Prop)) => ?mk3_12) ⟨?lk3_12⟩
                 refine' (fun (k3_11 : PLift (_ : Prop)) => ?mk3_11) ⟨?lk3_11⟩
                 refine' (fun (k13 : PLift (_ : Prop)) => ?mk13) ⟨?lk13⟩
                 refine' (fun (k12 : PLift (_ : Prop)) => ?mk12) ⟨?lk12⟩
                 refine' (fun (k11 : PLift (_ : Prop)) => ?mk11) ⟨?lk11⟩
                 refine' (fun (k3 : PLift (_ : Prop)) => ?mk3) ⟨?lk3⟩
                 case mk3 =>
                  as_aux_lemma =>
                   have hB := hB0
                   have hS := hS0
                   refine wpAnyH_take (i := 0) (oi := ⟨some 91, .load 37 (.tmp 6), 37, "law.go:99", #[], none⟩) (v := .agg (tvC Rr (.slice At1 nt1 ct1) (.slice Al1 nl1 cl1)).toArray) rfl (by kernel_rfl) (by kernel_rfl) (by kernel_rfl) (fun _ _ _ h => h) (yieldsIf_row rfl 37 (.tmp 6) rfl rb rfl (tvC Rr (.slice At1 nt1 ct1) (.slice Al1 nl1 cl1)) tv_struct (HSZ.out _ _ _) 37 (fun W h => h)) (by assumption) ?_
                   try simp only [Act.put, List.setIfInBounds_toArray, List.set_cons_zero, List.set_cons_succ]
                   refine' wpAnyH_take (i := 1) (oi := ⟨some 92, .move (.tmp 7), 35, "law.go:99", #[], none⟩) (v := _) rfl (by kernel_rfl) (by kernel_rfl) (by kernel_rfl) (fun _ _ _ h => h) (Or.inl ⟨by rfl, ?hy89⟩) (by assumption) ?rest89
                   case hy89 => (intro w hSw; (try dsimp only at hSw); go_simp; try with_reducible rfl)
                   try simp only [Act.put, List.setIfInBounds_toArray, List.set_cons_zero, List.set_cons_succ]
                   refine' wpAnyH_take (i := 2) (oi := ⟨some 93, .move (.tmp 8), 35, "law.go:99", #[], none⟩) (v := _) rfl (by kernel_rfl) (by kernel_rfl) (by kernel_rfl) (fun _ _ _ h => h) (Or.inl ⟨by rfl, ?hy90⟩) (by assumption) ?rest90
                   case hy90 => (intro w hSw; (try dsimp only at hSw); go_simp; try with_reducible rfl)
                   try simp only [Act.put, List.setIfInBounds_toArray, List.set_cons_zero, List.set_cons_succ]
                   refine wpAnyH_ready (rs := [3, 11, 12, 13]) (by kernel_rfl) (by simp) ?_
                   refine AllReadyH.cons (o := ⟨some 94, .call { callee := .value (.func 18), args := #[.tmp 92, .tmp 93], argTypes := #[35, 35] }, 51, "law.go:99", #[⟨1, .data⟩, ⟨2, .data⟩], none⟩) rfl (fun K hK => ?_) (AllReadyH.cons (o := ⟨some 16, .alloc 37, 0, "law.go:99", #[], none⟩) rfl (fun K hK => ?_) (AllReadyH.cons (o := ⟨some 17, .alloc 51, 0, "law.go:99", #[], none⟩) rfl (fun K hK => ?_) (AllReadyH.cons (o := ⟨some 18, .alloc 53, 0, "law.go:99", #[], none⟩) rfl (fun K hK => ?_) AllReadyH.nil)))
                   · go_simp
                     go_at_call 18
                     refine (KOF.out _ hB).mono ?_
                     rintro e W2 ⟨C1, m1, e1, C2, m2, e2, rfl, oN, bN⟩
                     have hsz := hB.size
                     have hON := oN.weak (Q := (fun y => wx.heap.size ≤ y)) (fun y hy p => by omega)
                     have hB2 := below_on hB bN
                     have hS2 := HBS14.out _ hB2
                     clear hB hS
                     have hB := hB2
                     have hS := hS2
                     clear hB2 hS2
                     have hO := hON
                     clear hON oN bN hsz
                     go_wp2_with fail
                     refine hK.out _ _ hS (fun hSx => ?_)
                     clear hK K
                     try simp only [Act.put, List.setIfInBounds_toArray, List.set_cons_zero, List.set_cons_succ]
                     clear hSx
                     revert hO
                     revert hS
                     revert hB
                     revert e2
                     revert m2
                     revert C2
                     revert e1
                     revert m1
                     revert C1
                     revert W2
                     exact k3.down
                   · refine alloc_step rfl 37 rfl _ tv_zero ?_
                     intro W2 rW bW zW
                     have hsz := hB.size
                     generalize hq : W.heap.size = nb at rW bW zW ⊢
                     have hn0 : wx.heap.size ≤ nb := by omega
                     have hB2 := below_on hB (show Below W.heap.size W W2 from by rw [hq]; exact bW)
                     have hS2 := HBS14.out _ hB2
                     clear hB hS
                     have hB := hB2
                     have hS := hS2
                     clear hB2 hS2
                     have hn := rW
                     clear rW bW zW hsz hq
                     refine hK.out _ _ hS (fun hSx => ?_)
                     clear hK K
                     try simp only [Act.put, List.setIfInBounds_toArray, List.set_cons_zero, List.set_cons_succ]
                     clear hSx
                     revert hn0
                     revert hn
                     revert hS
                     revert hB
                     revert nb
                     revert W2
                     exact k11.down
                   · refine alloc_step rfl 51 rfl _ rp17_zero ?_
                     intro W2 rW bW zW
                     have hsz := hB.size
                     generalize hq : W.heap.size = pb at rW bW zW ⊢
                     have hp0 : wx.heap.size ≤ pb := by omega
                     have hB2 := below_on hB (show Below W.heap.size W W2 from by rw [hq]; exact bW)
                     have hS2 := HBS14.out _ hB2
                     clear hB hS
                     have hB := hB2
                     have hS := hS2
                     clear hB2 hS2
                     have hp := rW
                     clear rW bW zW hsz hq
                     refine hK.out _ _ hS (fun hSx => ?_)
                     clear hK K
                     try simp only [Act.put, List.setIfInBounds_toArray, List.set_cons_zero, List.set_cons_succ]
                     clear hSx
                     revert hp0
                     revert hp
                     revert hS
                     revert hB
                     revert pb
                     revert W2
                     exact k12.down
                   · refine alloc_step rfl 53 rfl _ rtt_zero ?_
                     intro W2 rW bW zW
                     have hsz := hB.size
                     generalize hq : W.heap.size = tb at rW bW zW ⊢
                     have ht0 : wx.heap.size ≤ tb := by omega
                     have hB2 := below_on hB (show Below W.heap.size W W2 from by rw [hq]; exact bW)
                     have hS2 := HBS14.out _ hB2
                     clear hB hS
                     have hB := hB2
                     have hS := hS2
                     clear hB2 hS2
                     have ht := rW
                     clear rW bW zW hsz hq
                     refine hK.out _ _ hS (fun hSx => ?_)
                     clear hK K
                     try simp only [Act.put, List.setIfInBounds_toArray, List.set_cons_zero, List.set_cons_succ]
                     clear hSx
                     revert ht0
                     revert ht
                     revert hS
                     revert hB
                     revert tb
                     revert W2
                     exact k13.down
                 case lk3 =>
                  as_aux_lemma =>
                   intro W C1 m1 e1 C2 m2 e2 hB hS hO
                   refine wpAnyH_ready (rs := [4, 11, 12, 13]) (by kernel_rfl) (by simp) ?_
                   refine AllReadyH.cons (o := ⟨some 95, .call { callee := .value (.func 17), args := #[.tmp 91, .tmp 94], argTypes := #[37, 51] }, 54, "law.go:99", #[⟨0, .data⟩, ⟨3, .data⟩, ⟨3, .chain⟩], none⟩) rfl (fun K hK => ?_) (AllReadyH.cons (o := ⟨some 16, .alloc 37, 0, "law.go:99", #[], none⟩) rfl (fun K hK => ?_) (AllReadyH.cons (o := ⟨some 17, .alloc 51, 0, "law.go:99", #[], none⟩) rfl (fun K hK => ?_) (AllReadyH.cons (o := ⟨some 18, .alloc 53, 0, "law.go:99", #[], none⟩) rfl (fun K hK => ?_) AllReadyH.nil)))
                   · go_simp
                     go_at_call 17
                     refine (KST.out _ _ _ _ _ _ _ _ hB hO).mono ?_
                     rintro e W2 ⟨At2, nt2, ct2, Al2, nl2, cl2, Xa, za, da, Xb, zb, db, Xc, zc, dc, rfl, lN, oN, bN⟩
                     have hsz := hB.size
                     have hRN := lN.weak (Q := (fun y => ((P y ∧ y < wx.heap.size) ∨ wx.heap.size ≤ y))) (fun y hy p => by rcases p with p | p; exact .inl p; exact .inr (by omega))
                     have hQN := oN.weak (Q := (fun y => wx.heap.size ≤ y)) (fun y hy p => by (try dsimp only at p); omega)
                     clear hO
                     have hB2 := below_on hB bN
                     have hS2 := HBS14.out _ hB2
                     clear hB hS
                     have hB := hB2
                     have hS := hS2
                     clear hB2 hS2
                     have hR := hRN
                     have hQ := hQN
                     clear hRN hQN lN oN bN hsz
                     go_wp2_with fail
                     refine hK.out _ _ hS (fun hSx => ?_)
                     clear hK K
                     try simp only [Act.put, List.setIfInBounds_toArray, List.set_cons_zero, List.set_cons_succ]
                     refine' wpAnyH_take (i := 5) (oi := ⟨some 90, .move (.tmp 95), 54, "law.go:99", #[⟨4, .data⟩], none⟩) (v := _) rfl (by kernel_rfl) (by kernel_rfl) (by kernel_rfl) (fun _ _ _ h => h) (Or.inl ⟨by rfl, ?hy139⟩) (by assumption) ?rest139
                     case hy139 => (intro w hSw; (try dsimp only at hSw); go_simp; try with_reducible rfl)
                     try simp only [Act.put, List.setIfInBounds_toArray, List.set_cons_zero, List.set_cons_succ]
                     refine' wpAnyH_take (i := 6) (oi := ⟨some 96, .extract (.tmp 90) 0, 37, "law.go:99", #[⟨5, .data⟩], none⟩) (v := _) rfl (by kernel_rfl) (by kernel_rfl) (by kernel_rfl) (fun _ _ _ h => h) (Or.inl ⟨by rfl, ?hy140⟩) (by assumption) ?rest140
                     case hy140 => (intro w hSw; (try dsimp only at hSw); go_simp; try with_reducible rfl)
                     try simp only [Act.put, List.setIfInBounds_toArray, List.set_cons_zero, List.set_cons_succ]
                     refine' wpAnyH_take (i := 7) (oi := ⟨some 97, .extract (.tmp 90) 1, 51, "law.go:99", #[⟨5, .data⟩, ⟨14, .gcOnly .lateStores⟩], none⟩) (v := _) rfl (by kernel_rfl) (by kernel_rfl) (by kernel_rfl) (fun _ _ _ h => h) (Or.inl ⟨by rfl, ?hy141⟩) (by assumption) ?rest141
                     case hy141 => (intro w hSw; (try dsimp only at hSw); go_simp; try with_reducible rfl)
                     try simp only [Act.put, List.setIfInBounds_toArray, List.set_cons_zero, List.set_cons_succ]
                     refine' wpAnyH_take (i := 8) (oi := ⟨some 98, .extract (.tmp 90) 2, 53, "law.go:99", #[⟨5, .data⟩, ⟨15, .gcOnly .lateStores⟩], none⟩) (v := _) rfl (by kernel_rfl) (by kernel_rfl) (by kernel_rfl) (fun _ _ _ h => h) (Or.inl ⟨by rfl, ?hy142⟩) (by assumption) ?rest142
                     case hy142 => (intro w hSw; (try dsimp only at hSw); go_simp; try with_reducible rfl)
                     try simp only [Act.put, List.setIfInBounds_toArray, List.set_cons_zero, List.set_cons_succ]
                     refine' wpAnyH_take (i := 9) (oi := ⟨some 99, .extract (.tmp 90) 3, 4, "law.go:99", #[⟨5, .data⟩, ⟨16, .gcOnly .lateStores⟩], none⟩) (v := _) rfl (by kernel_rfl) (by kernel_rfl) (by kernel_rfl) (fun _ _ _ h => h) (Or.inl ⟨by rfl, ?hy143⟩) (by assumption) ?rest143
                     case hy143 => (intro w hSw; (try dsimp only at hSw); go_simp; try with_reducible rfl)
                     try simp only [Act.put, List.setIfInBounds_toArray, List.set_cons_zero, List.set_cons_succ]
                     refine' wpAnyH_take (i := 10) (oi := ⟨some 100, .extract (.tmp 90) 4, 3, "law.go:99", #[⟨5, .data⟩, ⟨17, .gcOnly .lateStores⟩], none⟩) (v := _) rfl (by kernel_rfl) (by kernel_rfl) (by kernel_rfl) (fun _ _ _ h => h) (Or.inl ⟨by rfl, ?hy144⟩) (by assumption) ?rest144
                     case hy144 => (intro w hSw; (try dsimp only at hSw); go_simp; try with_reducible rfl)
                     try simp only [Act.put, List.setIfInBounds_toArray, List.set_cons_zero, List.set_cons_succ]
                     clear hSx
                     revert hQ
                     revert hR
                     revert hS
                     revert hB
                     revert dc
                     revert zc
                     revert Xc
                     revert db
                     revert zb
                     revert Xb
                     revert da
                     revert za
                     revert Xa
                     revert cl2
                     revert nl2
                     revert Al2
                     revert ct2
                     revert nt2
                     revert At2
                     revert e2
                     revert m2
                     revert C2
                     revert e1
                     revert m1
                     revert C1
                     revert W2
                     exact k3_4.down
                   · refine alloc_step rfl 37 rfl _ tv_zero ?_
                     intro W2 rW bW zW
                     have hsz := hB.size
                     generalize hq : W.heap.size = nb at rW bW zW ⊢
                     have hOs := hO.weak (Q := (fun y => wx.heap.size ≤ y ∧ y ≠ nb)) (fun y hy p => by have := hq; omega)
                     clear hO
                     have hO := hOs
                     clear hOs
                     have hn0 : wx.heap.size ≤ nb := by omega
                     have hB2 := below_on hB (show Below W.heap.size W W2 from by rw [hq]; exact bW)
                     have hS2 := HBS14.out _ hB2
                     have hO2 := hO.below (show Below W.heap.size W W2 from by rw [hq]; exact bW)
                     clear hB hS hO
                     have hB := hB2
                     have hS := hS2
                     have hO := hO2
                     clear hB2 hS2 hO2
                     have hn := rW
                     clear rW bW zW hsz hq
                     refine hK.out _ _ hS (fun hSx => ?_)
                     clear hK K
                     try simp only [Act.put, List.setIfInBounds_toArray, List.set_cons_zero, List.set_cons_succ]
                     clear hSx
                     revert hO
                     revert hn0
                     revert hn
                     revert hS
                     revert hB
                     revert e2
                     revert m2
                     revert C2
                     revert e1
                     revert m1
                     revert C1
                     revert nb
                     revert W2
                     exact k3_11.down
                   · refine alloc_step rfl 51 rfl _ rp17_zero ?_
                     intro W2 rW bW zW
                     have hsz := hB.size
                     generalize hq : W.heap.size = pb at rW bW zW ⊢
                     have hOs := hO.weak (Q := (fun y => wx.heap.size ≤ y ∧ y ≠ pb)) (fun y hy p => by have := hq; omega)
                     clear hO
                     have hO := hOs
                     clear hOs
                     have hp0 : wx.heap.size ≤ pb := by omega
                     have hB2 := below_on hB (show Below W.heap.size W W2 from by rw [hq]; exact bW)
                     have hS2 := HBS14.out _ hB2
                     have hO2 := hO.below (show Below W.heap.size W W2 from by rw [hq]; exact bW)
                     clear hB hS hO
                     have hB := hB2
                     have hS := hS2
                     have hO := hO2
                     clear hB2 hS2 hO2
                     have hp := rW
                     clear rW bW zW hsz hq
                     refine hK.out _ _ hS (fun hSx => ?_)
                     clear hK K
                     try simp only [Act.put, List.setIfInBounds_toArray, List.set_cons_zero, List.set_cons_succ]
                     clear hSx
                     revert hO
                     revert hp0
                     revert hp
                     revert hS
                     revert hB
                     revert e2
                     revert m2
                     revert C2
                     revert e1
                     revert m1
                     revert C1
                     revert pb
                     revert W2
                     exact k3_12.down
                   · refine alloc_step rfl 53 rfl _ rtt_zero ?_
                     intro W2 rW bW zW
                     have hsz := hB.size
                     generalize hq : W.heap.size = tb at rW bW zW ⊢
                     have hOs := hO.weak (Q := (fun y => wx.heap.size ≤ y ∧ y ≠ tb)) (fun y hy p => by have := hq; omega)
                     clear hO
                     have hO := hOs
                     clear hOs
                     have ht0 : wx.heap.size ≤ tb := by omega
                     have hB2 := below_on hB (show Below W.heap.size W W2 from by rw [hq]; exact bW)
                     have hS2 := HBS14.out _ hB2
                     have hO2 := hO.below (show Below W.heap.size W W2 from by rw [hq]; exact bW)
                     clear hB hS hO
                     have hB := hB2
                     have hS := hS2
                     have hO := hO2
                     clear hB2 hS2 hO2
                     have ht := rW
                     clear rW bW zW hsz hq
                     refine hK.out _ _ hS (fun hSx => ?_)
                     clear hK K
                     try simp only [Act.put, List.setIfInBounds_toArray, List.set_cons_zero, List.set_cons_succ]
                     clear hSx
                     revert hO
                     revert ht0
                     revert ht
                     revert hS
                     revert hB
                     revert e2
                     revert m2
                     revert C2
                     revert e1
                     revert m1
                     revert C1
                     revert tb
                     revert W2
                     exact k3_13.down
                 case lk11 =>
                  as_aux_lemma =>
                   intro W nb hB hS hn hn0
                   refine wpAnyH_ready (rs := [3, 12, 13]) (by kernel_rfl) (by simp) ?_
                   refine AllReadyH.cons (o := ⟨some 94, .call { callee := .value (.func 18), args := #[.tmp 92, .tmp 93], argTypes := #[35, 35] }, 51, "law.go:99", #[⟨1, .data⟩, ⟨2, .data⟩], none⟩) rfl (fun K hK => ?_) (AllReadyH.cons (o := ⟨some 17, .alloc 51, 0, "law.go:99", #[], none⟩) rfl (fun K hK => ?_) (AllReadyH.cons (o := ⟨some 18, .alloc 53, 0, "law.go:99", #[], none⟩) rfl (fun K hK => ?_) AllReadyH.nil))
                   · go_simp
                     go_at_call 18
                     refine (KOF.out _ hB).mono ?_
                     rintro e W2 ⟨C1, m1, e1, C2, m2, e2, rfl, oN, bN⟩
                     have hsz := hB.size
                     have hnlt := hn.lt
                     have hON := oN.weak (Q := (fun y => wx.heap.size ≤ y ∧ y ≠ nb)) (fun y hy p => by omega)
                     have hB2 := below_on hB bN
                     have hS2 := HBS14.out _ hB2
                     have hn2 := hn.below bN
                     clear hB hS hn
                     have hB := hB2
                     have hS := hS2
                     have hn := hn2
                     clear hB2 hS2 hn2
                     have hO := hON
                     clear hON oN bN hsz hnlt
                     go_wp2_with fail
                     refine hK.out _ _ hS (fun hSx => ?_)
                     clear hK K
                     try simp only [Act.put, List.setIfInBounds_toArray, List.set_cons_zero, List.set_cons_succ]
                     clear hSx
                     revert hO
                     revert hn0
                     revert hn
                     revert hS
                     revert hB
                     revert e2
                     revert m2
                     revert C2
                     revert e1
                     revert m1
                     revert C1
                     revert nb
                     revert W2
                     exact k3_11.down
                   · refine alloc_step rfl 51 rfl _ rp17_zero ?_
                     intro W2 rW bW zW
                     have hsz := hB.size
                     generalize hq : W.heap.size = pb at rW bW zW ⊢
                     have hp0 : wx.heap.size ≤ pb := by omega
                     have hB2 := below_on hB (show Below W.heap.size W W2 from by rw [hq]; exact bW)
                     have hS2 := HBS14.out _ hB2
                     have hn2 := hn.below (show Below W.heap.size W W2 from by rw [hq]; exact bW)
                     clear hB hS hn
                     have hB := hB2
                     have hS := hS2
                     have hn := hn2
                     clear hB2 hS2 hn2
                     have hp := rW
                     clear rW bW zW hsz hq
                     refine hK.out _ _ hS (fun hSx => ?_)
                     clear hK K
                     try simp only [Act.put, List.setIfInBounds_toArray, List.set_cons_zero, List.set_cons_succ]
                     clear hSx
                     revert hp0
                     revert hp
                     revert hn0
                     revert hn
                     revert hS
                     revert hB
                     revert pb
                     revert nb
                     revert W2
                     exact k11_12.down
                   · refine alloc_step rfl 53 rfl _ rtt_zero ?_
                     intro W2 rW bW zW
                     have hsz := hB.size
                     generalize hq : W.heap.size = tb at rW bW zW ⊢
                     have ht0 : wx.heap.size ≤ tb := by omega
                     have hB2 := below_on hB (show Below W.heap.size W W2 from by rw [hq]; exact bW)
                     have hS2 := HBS14.out _ hB2
                     have hn2 := hn.below (show Below W.heap.size W W2 from by rw [hq]; exact bW)
                     clear hB hS hn
                     have hB := hB2
                     have hS := hS2
                     have hn := hn2
                     clear hB2 hS2 hn2
                     have ht := rW
                     clear rW bW zW hsz hq
                     refine hK.out _ _ hS (fun hSx => ?_)
                     clear hK K
                     try simp only [Act.put, List.setIfInBounds_toArray, List.set_cons_zero, List.set_cons_succ]
                     clear hSx
                     revert ht0
                     revert ht
                     revert hn0
                     revert hn
                     revert hS
                     revert hB
                     revert tb
                     revert nb
                     revert W2
                     exact k11_13.down
                 case lk12 =>
                  as_aux_lemma =>
                   intro W pb hB hS hp hp0
                   refine wpAnyH_ready (rs := [3, 11, 13]) (by kernel_rfl) (by simp) ?_
                   refine AllReadyH.cons (o := ⟨some 94, .call { callee := .value (.func 18), args := #[.tmp 92, .tmp 93], argTypes := #[35, 35] }, 51, "law.go:99", #[⟨1, .data⟩, ⟨2, .data⟩], none⟩) rfl (fun K hK => ?_) (AllReadyH.cons (o := ⟨some 16, .alloc 37, 0, "law.go:99", #[], none⟩) rfl (fun K hK => ?_) (AllReadyH.cons (o := ⟨some 18, .alloc 53, 0, "law.go:99", #[], none⟩) rfl (fun K hK => ?_) AllReadyH.nil))
                   · go_simp
                     go_at_call 18
                     refine (KOF.out _ hB).mono ?_
                     rintro e W2 ⟨C1, m1, e1, C2, m2, e2, rfl, oN, bN⟩
                     have hsz := hB.size
                     have hplt := hp.lt
                     have hON := oN.weak (Q := (fun y => wx.heap.size ≤ y ∧ y ≠ pb)) (fun y hy p => by omega)
                     have hB2 := below_on hB bN
                     have hS2 := HBS14.out _ hB2
                     have hp2 := hp.below bN
                     clear hB hS hp
                     have hB := hB2
                     have hS := hS2
                     have hp := hp2
                     clear hB2 hS2 hp2
                     have hO := hON
                     clear hON oN bN hsz hplt
                     go_wp2_with fail
                     refine hK.out _ _ hS (fun hSx => ?_)
                     clear hK K
                     try simp only [Act.put, List.setIfInBounds_toArray, List.set_cons_zero, List.set_cons_succ]
                     clear hSx
                     revert hO
                     revert hp0
                     revert hp
                     revert hS
                     revert hB
                     revert e2
                     revert m2
                     revert C2
                     revert e1
                     revert m1
                     revert C1
                     revert pb
                     revert W2
                     exact k3_12.down
                   · refine alloc_step rfl 37 rfl _ tv_zero ?_
                     intro W2 rW bW zW
                     have hsz := hB.size
                     generalize hq : W.heap.size = nb at rW bW zW ⊢
                     have hn0 : wx.heap.size ≤ nb := by omega
                     have hB2 := below_on hB (show Below W.heap.size W W2 from by rw [hq]; exact bW)
                     have hS2 := HBS14.out _ hB2
                     have hp2 := hp.below (show Below W.heap.size W W2 from by rw [hq]; exact bW)
                     clear hB hS hp
                     have hB := hB2
                     have hS := hS2
                     have hp := hp2
                     clear hB2 hS2 hp2
                     have hn := rW
                     clear rW bW zW hsz hq
                     refine hK.out _ _ hS (fun hSx => ?_)
                     clear hK K
                     try simp only [Act.put, List.setIfInBounds_toArray, List.set_cons_zero, List.set_cons_succ]
                     clear hSx
                     revert hp0
                     revert hp
                     revert hn0
                     revert hn
                     revert hS
                     revert hB
                     revert pb
                     revert nb
                     revert W2
                     exact k11_12.down
                   · refine alloc_step rfl 53 rfl _ rtt_zero ?_
                     intro W2 rW bW zW
                     have hsz := hB.size
                     generalize hq : W.heap.size = tb at rW bW zW ⊢
                     have ht0 : wx.heap.size ≤ tb := by omega
                     have hB2 := below_on hB (show Below W.heap.size W W2 from by rw [hq]; exact bW)
                     have hS2 := HBS14.out _ hB2
                     have hp2 := hp.below (show Below W.heap.size W W2 from by rw [hq]; exact bW)
                     clear hB hS hp
                     have hB := hB2
                     have hS := hS2
                     have hp := hp2
                     clear hB2 hS2 hp2
                     have ht := rW
                     clear rW bW zW hsz hq
                     refine hK.out _ _ hS (fun hSx => ?_)
                     clear hK K
                     try simp only [Act.put, List.setIfInBounds_toArray, List.set_cons_zero, List.set_cons_succ]
                     clear hSx
                     revert ht0
                     revert ht
                     revert hp0
                     revert hp
                     revert hS
                     revert hB
                     revert tb
                     revert pb
                     revert W2
                     exact k12_13.down
                 case lk13 =>
                  as_aux_lemma =>
                   intro W tb hB hS ht ht0
                   refine wpAnyH_ready (rs := [3, 11, 12]) (by kernel_rfl) (by simp) ?_
                   refine AllReadyH.cons (o := ⟨some 94, .call { callee := .value (.func 18), args := #[.tmp 92, .tmp 93], argTypes := #[35, 35] }, 51, "law.go:99", #[⟨1, .data⟩, ⟨2, .data⟩], none⟩) rfl (fun K hK => ?_) (AllReadyH.cons (o := ⟨some 16, .alloc 37, 0, "law.go:99", #[], none⟩) rfl (fun K hK => ?_) (AllReadyH.cons (o := ⟨some 17, .alloc 51, 0, "law.go:99", #[], none⟩) rfl (fun K hK => ?_) AllReadyH.nil))
                   · go_simp
                     go_at_call 18
                     refine (KOF.out _ hB).mono ?_
                     rintro e W2 ⟨C1, m1, e1, C2, m2, e2, rfl, oN, bN⟩
                     have hsz := hB.size
                     have htlt := ht.lt
                     have hON := oN.weak (Q := (fun y => wx.heap.size ≤ y ∧ y ≠ tb)) (fun y hy p => by omega)
                     have hB2 := below_on hB bN
                     have hS2 := HBS14.out _ hB2
                     have ht2 := ht.below bN
                     clear hB hS ht
                     have hB := hB2
                     have hS := hS2
                     have ht := ht2
                     clear hB2 hS2 ht2
                     have hO := hON
                     clear hON oN bN hsz htlt
                     go_wp2_with fail
                     refine hK.out _ _ hS (fun hSx => ?_)
                     clear hK K
                     try simp only [Act.put, List.setIfInBounds_toArray, List.set_cons_zero, List.set_cons_succ]
                     clear hSx
                     revert hO
                     revert ht0
                     revert ht
                     revert hS
                     revert hB
                     revert e2
                     revert m2
                     revert C2
                     revert e1
                     revert m1
                     revert C1
                     revert tb
                     revert W2
                     exact k3_13.down
                   · refine alloc_step rfl 37 rfl _ tv_zero ?_
                     intro W2 rW bW zW
                     have hsz := hB.size
                     generalize hq : W.heap.size = nb at rW bW zW ⊢
                     have hn0 : wx.heap.size ≤ nb := by omega
                     have hB2 := below_on hB (show Below W.heap.size W W2 from by rw [hq]; exact bW)
                     have hS2 := HBS14.out _ hB2
                     have ht2 := ht.below (show Below W.heap.size W W2 from by rw [hq]; exact bW)
                     clear hB hS ht
                     have hB := hB2
                     have hS := hS2
                     have ht := ht2
                     clear hB2 hS2 ht2
                     have hn := rW
                     clear rW bW zW hsz hq
                     refine hK.out _ _ hS (fun hSx => ?_)
                     clear hK K
                     try simp only [Act.put, List.setIfInBounds_toArray, List.set_cons_zero, List.set_cons_succ]
                     clear hSx
                     revert ht0
                     revert ht
                     revert hn0
                     revert hn
                     revert hS
                     revert hB
                     revert tb
                     revert nb
                     revert W2
                     exact k11_13.down
                   · refine alloc_step rfl 51 rfl _ rp17_zero ?_
                     intro W2 rW bW zW
                     have hsz := hB.size
                     generalize hq : W.heap.size = pb at rW bW zW ⊢
                     have hp0 : wx.heap.size ≤ pb := by omega
                     have hB2 := below_on hB (show Below W.heap.size W W2 from by rw [hq]; exact bW)
                     have hS2 := HBS14.out _ hB2
                     have ht2 := ht.below (show Below W.heap.size W W2 from by rw [hq]; exact bW)
                     clear hB hS ht
                     have hB := hB2
                     have hS := hS2
                     have ht := ht2
                     clear hB2 hS2 ht2
                     have hp := rW
                     clear rW bW zW hsz hq
                     refine hK.out _ _ hS (fun hSx => ?_)
                     clear hK K
                     try simp only [Act.put, List.setIfInBounds_toArray, List.set_cons_zero, List.set_cons_succ]
                     clear hSx
                     revert ht0
                     revert ht
                     revert hp0
                     revert hp
                     revert hS
                     revert hB
                     revert tb
                     revert pb
                     revert W2
                     exact k12_13.down
                 case lk3_11 =>
                  as_aux_lemma =>
                   intro W nb C1 m1 e1 C2 m2 e2 hB hS hn hn0 hO
                   refine wpAnyH_ready (rs := [4, 12, 13]) (by kernel_rfl) (by simp) ?_
                   refine AllReadyH.cons (o := ⟨some 95, .call { callee := .value (.func 17), args := #[.tmp 91, .tmp 94], argTypes := #[37, 51] }, 54, "law.go:99", #[⟨0, .data⟩, ⟨3, .data⟩, ⟨3, .chain⟩], none⟩) rfl (fun K hK => ?_) (AllReadyH.cons (o := ⟨some 17, .alloc 51, 0, "law.go:99", #[], none⟩) rfl (fun K hK => ?_) (AllReadyH.cons (o := ⟨some 18, .alloc 53, 0, "law.go:99", #[], none⟩) rfl (fun K hK => ?_) AllReadyH.nil))
                   · go_simp
                     go_at_call 17
                     refine (KST.out _ _ _ _ _ _ _ _ hB hO).mono ?_
                     rintro e W2 ⟨At2, nt2, ct2, Al2, nl2, cl2, Xa, za, da, Xb, zb, db, Xc, zc, dc, rfl, lN, oN, bN⟩
                     have hsz := hB.size
                     have hnlt := hn.lt
                     have hRN := lN.weak (Q := (fun y => ((P y ∧ y < wx.heap.size) ∨ wx.heap.size ≤ y) ∧ y ≠ nb)) (fun y hy p => ⟨by rcases p with p | p; exact .inl p; exact .inr (by omega), by rcases p with p | p <;> omega⟩)
                     have hQN := oN.weak (Q := (fun y => wx.heap.size ≤ y ∧ y ≠ nb)) (fun y hy p => by (try dsimp only at p); omega)
                     clear hO
                     have hB2 := below_on hB bN
                     have hS2 := HBS14.out _ hB2
                     have hn2 := hn.below bN
                     clear hB hS hn
                     have hB := hB2
                     have hS := hS2
                     have hn := hn2
                     clear hB2 hS2 hn2
                     have hR := hRN
                     have hQ := hQN
                     clear hRN hQN lN oN bN hsz hnlt
                     go_wp2_with fail
                     refine hK.out _ _ hS (fun hSx => ?_)
                     clear hK K
                     try simp only [Act.put, List.setIfInBounds_toArray, List.set_cons_zero, List.set_cons_succ]
                     refine' wpAnyH_take (i := 5) (oi := ⟨some 90, .move (.tmp 95), 54, "law.go:99", #[⟨4, .data⟩], none⟩) (v := _) rfl (by kernel_rfl) (by kernel_rfl) (by kernel_rfl) (fun _ _ _ h => h) (Or.inl ⟨by rfl, ?hy145⟩) (by assumption) ?rest145
                     case hy145 => (intro w hSw; (try dsimp only at hSw); go_simp; try with_reducible rfl)
                     try simp only [Act.put, List.setIfInBounds_toArray, List.set_cons_zero, List.set_cons_succ]
                     refine' wpAnyH_take (i := 6) (oi := ⟨some 96, .extract (.tmp 90) 0, 37, "law.go:99", #[⟨5, .data⟩], none⟩) (v := _) rfl (by kernel_rfl) (by kernel_rfl) (by kernel_rfl) (fun _ _ _ h => h) (Or.inl ⟨by rfl, ?hy146⟩) (by assumption) ?rest146
                     case hy146 => (intro w hSw; (try dsimp only at hSw); go_simp; try with_reducible rfl)
                     try simp only [Act.put, List.setIfInBounds_toArray, List.set_cons_zero, List.set_cons_succ]
                     refine' wpAnyH_take (i := 7) (oi := ⟨some 97, .extract (.tmp 90) 1, 51, "law.go:99", #[⟨5, .data⟩, ⟨14, .gcOnly .lateStores⟩], none⟩) (v := _) rfl (by kernel_rfl) (by kernel_rfl) (by kernel_rfl) (fun _ _ _ h => h) (Or.inl ⟨by rfl, ?hy147⟩) (by assumption) ?rest147
                     case hy147 => (intro w hSw; (try dsimp only at hSw); go_simp; try with_reducible rfl)
                     try simp only [Act.put, List.setIfInBounds_toArray, List.set_cons_zero, List.set_cons_succ]
                     refine' wpAnyH_take (i := 8) (oi := ⟨some 98, .extract (.tmp 90) 2, 53, "law.go:99", #[⟨5, .data⟩, ⟨15, .gcOnly .lateStores⟩], none⟩) (v := _) rfl (by kernel_rfl) (by kernel_rfl) (by kernel_rfl) (fun _ _ _ h => h) (Or.inl ⟨by rfl, ?hy148⟩) (by assumption) ?rest148
                     case hy148 => (intro w hSw; (try dsimp only at hSw); go_simp; try with_reducible rfl)
                     try simp only [Act.put, List.setIfInBounds_toArray, List.set_cons_zero, List.set_cons_succ]
                     refine' wpAnyH_take (i := 9) (oi := ⟨some 99, .extract (.tmp 90) 3, 4, "law.go:99", #[⟨5, .data⟩, ⟨16, .gcOnly .lateStores⟩], none⟩) (v := _) rfl (by kernel_rfl) (by kernel_rfl) (by kernel_rfl) (fun _ _ _ h => h) (Or.inl ⟨by rfl, ?hy149⟩) (by assumption) ?rest149
                     case hy149 => (intro w hSw; (try dsimp only at hSw); go_simp; try with_reducible rfl)
                     try simp only [Act.put, List.setIfInBounds_toArray, List.set_cons_zero, List.set_cons_succ]
                     refine' wpAnyH_take (i := 10) (oi := ⟨some 100, .extract (.tmp 90) 4, 3, "law.go:99", #[⟨5, .data⟩, ⟨17, .gcOnly .lateStores⟩], none⟩) (v := _) rfl (by kernel_rfl) (by kernel_rfl) (by kernel_rfl) (fun _ _ _ h => h) (Or.inl ⟨by rfl, ?hy150⟩) (by assumption) ?rest150
                     case hy150 => (intro w hSw; (try dsimp only at hSw); go_simp; try with_reducible rfl)
                     try simp only [Act.put, List.setIfInBounds_toArray, List.set_cons_zero, List.set_cons_succ]
                     clear hSx
                     revert hQ
                     revert hR
                     revert hn0
                     revert hn
                     revert hS
                     revert hB
                     revert dc
                     revert zc
                     revert Xc
                     revert db
                     revert zb
                     revert Xb
                     revert da
                     revert za
                     revert Xa
                     revert cl2
                     revert nl2
                     revert Al2
                     revert ct2
                     revert nt2
                     revert At2
                     revert e2
                     revert m2
                     revert C2
                     revert e1
                     revert m1
                     revert C1
                     revert nb
                     revert W2
                     exact k3_4_11.down
                   · refine alloc_step rfl 51 rfl _ rp17_zero ?_
                     intro W2 rW bW zW
                     have hsz := hB.size
                     generalize hq : W.heap.size = pb at rW bW zW ⊢
                     have hOs := hO.weak (Q := (fun y => wx.heap.size ≤ y ∧ y ≠ nb ∧ y ≠ pb)) (fun y hy p => by have := hq; omega)
                     clear hO
                     have hO := hOs
                     clear hOs
                     have hp0 : wx.heap.size ≤ pb := by omega
                     have hB2 := below_on hB (show Below W.heap.size W W2 from by rw [hq]; exact bW)
                     have hS2 := HBS14.out _ hB2
                     have hn2 := hn.below (show Below W.heap.size W W2 from by rw [hq]; exact bW)
                     have hO2 := hO.below (show Below W.heap.size W W2 from by rw [hq]; exact bW)
                     clear hB hS hn hO
                     have hB := hB2
                     have hS := hS2
                     have hn := hn2
                     have hO := hO2
                     clear hB2 hS2 hn2 hO2
                     have hp := rW
                     clear rW bW zW hsz hq
                     refine hK.out _ _ hS (fun hSx => ?_)
                     clear hK K
                     try simp only [Act.put, List.setIfInBounds_toArray, List.set_cons_zero, List.set_cons_succ]
                     clear hSx
                     revert hO
                     revert hp0
                     revert hp
                     revert hn0
                     revert hn
                     revert hS
                     revert hB
                     revert e2
                     revert m2
                     revert C2
                     revert e1
                     revert m1
                     revert C1
                     revert pb
                     revert nb
                     revert W2
                     exact k3_11_12.down
                   · refine alloc_step rfl 53 rfl _ rtt_zero ?_
                     intro W2 rW bW zW
                     have hsz := hB.size
                     generalize hq : W.heap.size = tb at rW bW zW ⊢
                     have hOs := hO.weak (Q := (fun y => wx.heap.size ≤ y ∧ y ≠ nb ∧ y ≠ tb)) (fun y hy p => by have := hq; omega)
                     clear hO
                     have hO := hOs
                     clear hOs
                     have ht0 : wx.heap.size ≤ tb := by omega
                     have hB2 := below_on hB (show Below W.heap.size W W2 from by rw [hq]; exact bW)
                     have hS2 := HBS14.out _ hB2
                     have hn2 := hn.below (show Below W.heap.size W W2 from by rw [hq]; exact bW)
                     have hO2 := hO.below (show Below W.heap.size W W2 from by rw [hq]; exact bW)
                     clear hB hS hn hO
                     have hB := hB2
                     have hS := hS2
                     have hn := hn2
                     have hO := hO2
                     clear hB2 hS2 hn2 hO2
                     have ht := rW
                     clear rW bW zW hsz hq
                     refine hK.out _ _ hS (fun hSx => ?_)
                     clear hK K
                     try simp only [Act.put, List.setIfInBounds_toArray, List.set_cons_zero, List.set_cons_succ]
                     clear hSx
                     revert hO
                     revert ht0
                     revert ht
                     revert hn0
                     revert hn
                     revert hS
                     revert hB
                     revert e2
                     revert m2
                     revert C2
                     revert e1
                     revert m1
                     revert C1
                     revert tb
                     revert nb
                     revert W2
                     exact k3_11_13.down
                 case lk3_12 =>
                  as_aux_lemma =>
                   intro W pb C1 m1 e1 C2 m2 e2 hB hS hp hp0 hO
                   refine wpAnyH_ready (rs := [4, 11, 13]) (by kernel_rfl) (by simp) ?_
                   refine AllReadyH.cons (o := ⟨some 95, .call { callee := .value (.func 17), args := #[.tmp 91, .tmp 94], argTypes := #[37, 51] }, 54, "law.go:99", #[⟨0, .data⟩, ⟨3, .data⟩, ⟨3, .chain⟩], none⟩) rfl (fun K hK => ?_) (AllReadyH.cons (o := ⟨some 16, .alloc 37, 0, "law.go:99", #[], none⟩) rfl (fun K hK => ?_) (AllReadyH.cons (o := ⟨some 18, .alloc 53, 0, "law.go:99", #[], none⟩) rfl (fun K hK => ?_) AllReadyH.nil))
                   · go_simp
                     go_at_call 17
                     refine (KST.out _ _ _ _ _ _ _ _ hB hO).mono ?_
                     rintro e W2 ⟨At2, nt2, ct2, Al2, nl2, cl2, Xa, za, da, Xb, zb, db, Xc, zc, dc, rfl, lN, oN, bN⟩
                     have hsz := hB.size
                     have hplt := hp.lt
                     have hRN := lN.weak (Q := (fun y => ((P y ∧ y < wx.heap.size) ∨ wx.heap.size ≤ y) ∧ y ≠ pb)) (fun y hy p => ⟨by rcases p with p | p; exact .inl p; exact .inr (by omega), by rcases p with p | p <;> omega⟩)
                     have hQN := oN.weak (Q := (fun y => wx.heap.size ≤ y ∧ y ≠ pb)) (fun y hy p => by (try dsimp only at p); omega)
                     clear hO
                     have hB2 := below_on hB bN
                     have hS2 := HBS14.out _ hB2
                     have hp2 := hp.below bN
                     clear hB hS hp
                     have hB := hB2
                     have hS := hS2
                     have hp := hp2
                     clear hB2 hS2 hp2
                     have hR := hRN
                     have hQ := hQN
                     clear hRN hQN lN oN bN hsz hplt
                     go_wp2_with fail
                     refine hK.out _ _ hS (fun hSx => ?_)
                     clear hK K
                     try simp only [Act.put, List.setIfInBounds_toArray, List.set_cons_zero, List.set_cons_succ]
                     refine' wpAnyH_take (i := 5) (oi := ⟨some 90, .move (.tmp 95), 54, "law.go:99", #[⟨4, .data⟩], none⟩) (v := _) rfl (by kernel_rfl) (by kernel_rfl) (by kernel_rfl) (fun _ _ _ h => h) (Or.inl ⟨by rfl, ?hy151⟩) (by assumption) ?rest151
                     case hy151 => (intro w hSw; (try dsimp only at hSw); go_simp; try with_reducible rfl)
                     try simp only [Act.put, List.setIfInBounds_toArray, List.set_cons_zero, List.set_cons_succ]
                     refine' wpAnyH_take (i := 6) (oi := ⟨some 96, .extract (.tmp 90) 0, 37, "law.go:99", #[⟨5, .data⟩], none⟩) (v := _) rfl (by kernel_rfl) (by kernel_rfl) (by kernel_rfl) (fun _ _ _ h => h) (Or.inl ⟨by rfl, ?hy152⟩) (by assumption) ?rest152
                     case hy152 => (intro w hSw; (try dsimp only at hSw); go_simp; try with_reducible rfl)
                     try simp only [Act.put, List.setIfInBounds_toArray, List.set_cons_zero, List.set_cons_succ]
                     refine' wpAnyH_take (i := 7) (oi := ⟨some 97, .extract (.tmp 90) 1, 51, "law.go:99", #[⟨5, .data⟩, ⟨14, .gcOnly .lateStores⟩], none⟩) (v := _) rfl (by kernel_rfl) (by kernel_rfl) (by kernel_rfl) (fun _ _ _ h => h) (Or.inl ⟨by rfl, ?hy153⟩) (by assumption) ?rest153
                     case hy153 => (intro w hSw; (try dsimp only at hSw); go_simp; try with_reducible rfl)
                     try simp only [Act.put, List.setIfInBounds_toArray, List.set_cons_zero, List.set_cons_succ]
                     refine' wpAnyH_take (i := 8) (oi := ⟨some 98, .extract (.tmp 90) 2, 53, "law.go:99", #[⟨5, .data⟩, ⟨15, .gcOnly .lateStores⟩], none⟩) (v := _) rfl (by kernel_rfl) (by kernel_rfl) (by kernel_rfl) (fun _ _ _ h => h) (Or.inl ⟨by rfl, ?hy154⟩) (by assumption) ?rest154
                     case hy154 => (intro w hSw; (try dsimp only at hSw); go_simp; try with_reducible rfl)
                     try simp only [Act.put, List.setIfInBounds_toArray, List.set_cons_zero, List.set_cons_succ]
                     refine' wpAnyH_take (i := 9) (oi := ⟨some 99, .extract (.tmp 90) 3, 4, "law.go:99", #[⟨5, .data⟩, ⟨16, .gcOnly .lateStores⟩], none⟩) (v := _) rfl (by kernel_rfl) (by kernel_rfl) (by kernel_rfl) (fun _ _ _ h => h) (Or.inl ⟨by rfl, ?hy155⟩) (by assumption) ?rest155
                     case hy155 => (intro w hSw; (try dsimp only at hSw); go_simp; try with_reducible rfl)
                     try simp only [Act.put, List.setIfInBounds_toArray, List.set_cons_zero, List.set_cons_succ]
                     refine' wpAnyH_take (i := 10) (oi := ⟨some 100, .extract (.tmp 90) 4, 3, "law.go:99", #[⟨5, .data⟩, ⟨17, .gcOnly .lateStores⟩], none⟩) (v := _) rfl (by kernel_rfl) (by kernel_rfl) (by kernel_rfl) (fun _ _ _ h => h) (Or.inl ⟨by rfl, ?hy156⟩) (by assumption) ?rest156
                     case hy156 => (intro w hSw; (try dsimp only at hSw); go_simp; try with_reducible rfl)
                     try simp only [Act.put, List.setIfInBounds_toArray, List.set_cons_zero, List.set_cons_succ]
                     clear hSx
                     revert hQ
                     revert hR
                     revert hp0
                     revert hp
                     revert hS
                     revert hB
                     revert dc
                     revert zc
                     revert Xc
                     revert db
                     revert zb
                     revert Xb
                     revert da
                     revert za
                     revert Xa
                     revert cl2
                     revert nl2
                     revert Al2
                     revert ct2
                     revert nt2
                     revert At2
                     revert e2
                     revert m2
                     revert C2
                     revert e1
                     revert m1
                     revert C1
                     revert pb
                     revert W2
                     exact k3_4_12.down
                   · refine alloc_step rfl 37 rfl _ tv_zero ?_
                     intro W2 rW bW zW
                     have hsz := hB.size
                     generalize hq : W.heap.size = nb at rW bW zW ⊢
                     have hOs := hO.weak (Q := (fun y => wx.heap.size ≤ y ∧ y ≠ nb ∧ y ≠ pb)) (fun y hy p => by have := hq; omega)
                     clear hO
                     have hO := hOs
                     clear hOs
                     have hn0 : wx.heap.size ≤ nb := by omega
                     have hB2 := below_on hB (show Below W.heap.size W W2 from by rw [hq]; exact bW)
                     have hS2 := HBS14.out _ hB2
                     have hp2 := hp.below (show Below W.heap.size W W2 from by rw [hq]; exact bW)
                     have hO2 := hO.below (show Below W.heap.size W W2 from by rw [hq]; exact bW)
                     clear hB hS hp hO
                     have hB := hB2
                     have hS := hS2
                     have hp := hp2
                     have hO := hO2
                     clear hB2 hS2 hp2 hO2
                     have hn := rW
                     clear rW bW zW hsz hq
                     refine hK.out _ _ hS (fun hSx => ?_)
                     clear hK K
                     try simp only [Act.put, List.setIfInBounds_toArray, List.set_cons_zero, List.set_cons_succ]
                     clear hSx
                     revert hO
                     revert hp0
                     revert hp
                     revert hn0
                     revert hn
                     revert hS
                     revert hB
                     revert e2
                     revert m2
                     revert C2
                     revert e1
                     revert m1
                     revert C1
                     revert pb
                     revert nb
                     revert W2
                     exact k3_11_12.down
                   · refine alloc_step rfl 53 rfl _ rtt_zero ?_
                     intro W2 rW bW zW
                     have hsz := hB.size
                     generalize hq : W.heap.size = tb at rW bW zW ⊢
                     have hOs := hO.weak (Q := (fun y => wx.heap.size ≤ y ∧ y ≠ pb ∧ y ≠ tb)) (fun y hy p => by have := hq; omega)
                     clear hO
                     have hO := hOs
                     clear hOs
                     have ht0 : wx.heap.size ≤ tb := by omega
                     have hB2 := below_on hB (show Below W.heap.size W W2 from by rw [hq]; exact bW)
                     have hS2 := HBS14.out _ hB2
                     have hp2 := hp.below (show Below W.heap.size W W2 from by rw [hq]; exact bW)
                     have hO2 := hO.below (show Below W.heap.size W W2 from by rw [hq]; exact bW)
                     clear hB hS hp hO
                     have hB := hB2
                     have hS := hS2
                     have hp := hp2
                     have hO := hO2
                     clear hB2 hS2 hp2 hO2
                     have ht := rW
                     clear rW bW zW hsz hq
                     refine hK.out _ _ hS (fun hSx => ?_)
                     clear hK K
                     try simp only [Act.put, List.setIfInBounds_toArray, List.set_cons_zero, List.set_cons_succ]
                     clear hSx
                     revert hO
                     revert ht0
                     revert ht
                     revert hp0
                     revert hp
                     revert hS
                     revert hB
                     revert e2
                     revert m2
                     revert C2
                     revert e1
                     revert m1
                     revert C1
                     revert tb
                     revert pb
                     revert W2
                     exact k3_12_13.down
                 case lk3_13 =>
                  as_aux_lemma =>
                   intro W tb C1 m1 e1 C2 m2 e2 hB hS ht ht0 hO
                   refine wpAnyH_ready (rs := [4, 11, 12]) (by kernel_rfl) (by simp) ?_
                   refine AllReadyH.cons (o := ⟨some 95, .call { callee := .value (.func 17), args := #[.tmp 91, .tmp 94], argTypes := #[37, 51] }, 54, "law.go:99", #[⟨0, .data⟩, ⟨3, .data⟩, ⟨3, .chain⟩], none⟩) rfl (fun K hK => ?_) (AllReadyH.cons (o := ⟨some 16, .alloc 37, 0, "law.go:99", #[], none⟩) rfl (fun K hK => ?_) (AllReadyH.cons (o := ⟨some 17, .alloc 51, 0, "law.go:99", #[], none⟩) rfl (fun K hK => ?_) AllReadyH.nil))
                   · go_simp
                     go_at_call 17
                     refine (KST.out _ _ _ _ _ _ _ _ hB hO).mono ?_
                     rintro e W2 ⟨At2, nt2, ct2, Al2, nl2, cl2, Xa, za, da, Xb, zb, db, Xc, zc, dc, rfl, lN, oN, bN⟩
                     have hsz := hB.size
                     have htlt := ht.lt
                     have hRN := lN.weak (Q := (fun y => ((P y ∧ y < wx.heap.size) ∨ wx.heap.size ≤ y) ∧ y ≠ tb)) (fun y hy p => ⟨by rcases p with p | p; exact .inl p; exact .inr (by omega), by rcases p with p | p <;> omega⟩)
                     have hQN := oN.weak (Q := (fun y => wx.heap.size ≤ y ∧ y ≠ tb)) (fun y hy p => by (try dsimp only at p); omega)
                     clear hO
                     have hB2 := below_on hB bN
                     have hS2 := HBS14.out _ hB2
                     have ht2 := ht.below bN
                     clear hB hS ht
                     have hB := hB2
                     have hS := hS2
                     have ht := ht2
                     clear hB2 hS2 ht2
                     have hR := hRN
                     have hQ := hQN
                     clear hRN hQN lN oN bN hsz htlt
                     go_wp2_with fail
                     refine hK.out _ _ hS (fun hSx => ?_)
                     clear hK K
                     try simp only [Act.put, List.setIfInBounds_toArray, List.set_cons_zero, List.set_cons_succ]
                     refine' wpAnyH_take (i := 5) (oi := ⟨some 90, .move (.tmp 95), 54, "law.go:99", #[⟨4, .data⟩], none⟩) (v := _) rfl (by kernel_rfl) (by kernel_rfl) (by kernel_rfl) (fun _ _ _ h => h) (Or.inl ⟨by rfl, ?hy157⟩) (by assumption) ?rest157
                     case hy157 => (intro w hSw; (try dsimp only at hSw); go_simp; try with_reducible rfl)
                     try simp only [Act.put, List.setIfInBounds_toArray, List.set_cons_zero, List.set_cons_succ]
                     refine' wpAnyH_take (i := 6) (oi := ⟨some 96, .extract (.tmp 90) 0, 37, "law.go:99", #[⟨5, .data⟩], none⟩) (v := _) rfl (by kernel_rfl) (by kernel_rfl) (by kernel_rfl) (fun _ _ _ h => h) (Or.inl ⟨by rfl, ?hy158⟩) (by assumption) ?rest158
                     case hy158 => (intro w hSw; (try dsimp only at hSw); go_simp; try with_reducible rfl)
                     try simp only [Act.put, List.setIfInBounds_toArray, List.set_cons_zero, List.set_cons_succ]
                     refine' wpAnyH_take (i := 7) (oi := ⟨some 97, .extract (.tmp 90) 1, 51, "law.go:99", #[⟨5, .data⟩, ⟨14, .gcOnly .lateStores⟩], none⟩) (v := _) rfl (by kernel_rfl) (by kernel_rfl) (by kernel_rfl) (fun _ _ _ h => h) (Or.inl ⟨by rfl, ?hy159⟩) (by assumption) ?rest159
                     case hy159 => (intro w hSw; (try dsimp only at hSw); go_simp; try with_reducible rfl)
                     try simp only [Act.put, List.setIfInBounds_toArray, List.set_cons_zero, List.set_cons_succ]
                     refine' wpAnyH_take (i := 8) (oi := ⟨some 98, .extract (.tmp 90) 2, 53, "law.go:99", #[⟨5, .data⟩, ⟨15, .gcOnly .lateStores⟩], none⟩) (v := _) rfl (by kernel_rfl) (by kernel_rfl) (by kernel_rfl) (fun _ _ _ h => h) (Or.inl ⟨by rfl, ?hy160⟩) (by assumption) ?rest160
                     case hy160 => (intro w hSw; (try dsimp only at hSw); go_simp; try with_reducible rfl)
                     try simp only [Act.put, List.setIfInBounds_toArray, List.set_cons_zero, List.set_cons_succ]
                     refine' wpAnyH_take (i := 9) (oi := ⟨some 99, .extract (.tmp 90) 3, 4, "law.go:99", #[⟨5, .data⟩, ⟨16, .gcOnly .lateStores⟩], none⟩) (v := _) rfl (by kernel_rfl) (by kernel_rfl) (by kernel_rfl) (fun _ _ _ h => h) (Or.inl ⟨by rfl, ?hy161⟩) (by assumption) ?rest161
                     case hy161 => (intro w hSw; (try dsimp only at hSw); go_simp; try with_reducible rfl)
                     try simp only [Act.put, List.setIfInBounds_toArray, List.set_cons_zero, List.set_cons_succ]
                     refine' wpAnyH_take (i := 10) (oi := ⟨some 100, .extract (.tmp 90) 4, 3, "law.go:99", #[⟨5, .data⟩, ⟨17, .gcOnly .lateStores⟩], none⟩) (v := _) rfl (by kernel_rfl) (by kernel_rfl) (by kernel_rfl) (fun _ _ _ h => h) (Or.inl ⟨by rfl, ?hy162⟩) (by assumption) ?rest162
                     case hy162 => (intro w hSw; (try dsimp only at hSw); go_simp; try with_reducible rfl)
                     try simp only [Act.put, List.setIfInBounds_toArray, List.set_cons_zero, List.set_cons_succ]
                     clear hSx
                     revert hQ
                     revert hR
                     revert ht0
                     revert ht
                     revert hS
                     revert hB
                     revert dc
                     revert zc
                     revert Xc
                     revert db
                     revert zb
                     revert Xb
                     revert da
                     revert za
                     revert Xa
                     revert cl2
                     revert nl2
                     revert Al2
                     revert ct2
                     revert nt2
                     revert At2
                     revert e2
                     revert m2
                     revert C2
                     revert e1
                     revert m1
                     revert C1
                     revert tb
                     revert W2
                     exact k3_4_13.down
                   · refine alloc_step rfl 37 rfl _ tv_zero ?_
                     intro W2 rW bW zW
                     have hsz := hB.size
                     generalize hq : W.heap.size = nb at rW bW zW ⊢
                     have hOs := hO.weak (Q := (fun y => wx.heap.size ≤ y ∧ y ≠ nb ∧ y ≠ tb)) (fun y hy p => by have := hq; omega)
                     clear hO
                     have hO := hOs
                     clear hOs
                     have hn0 : wx.heap.size ≤ nb := by omega
                     have hB2 := below_on hB (show Below W.heap.size W W2 from by rw [hq]; exact bW)
                     have hS2 := HBS14.out _ hB2
                     have ht2 := ht.below (show Below W.heap.size W W2 from by rw [hq]; exact bW)
                     have hO2 := hO.below (show Below W.heap.size W W2 from by rw [hq]; exact bW)
                     clear hB hS ht hO
                     have hB := hB2
                     have hS := hS2
                     have ht := ht2
                     have hO := hO2
                     clear hB2 hS2 ht2 hO2
                     have hn := rW
                     clear rW bW zW hsz hq
                     refine hK.out _ _ hS (fun hSx => ?_)
                     clear hK K
                     try simp only [Act.put, List.setIfInBounds_toArray, List.set_cons_zero, List.set_cons_succ]
                     clear hSx
                     revert hO
                     revert ht0
                     revert ht
                     revert hn0
                     revert hn
                     revert hS
                     revert hB
                     revert e2
                     revert m2
                     revert C2
                     revert e1
                     revert m1
                     revert C1
                     revert tb
                     revert nb
                     revert W2
                     exact k3_11_13.down
                   · refine alloc_step rfl 51 rfl _ rp17_zero ?_
                     intro W2 rW bW zW
                     have hsz := hB.size
                     generalize hq : W.heap.size = pb at rW bW zW ⊢
                     have hOs := hO.weak (Q := (fun y => wx.heap.size ≤ y ∧ y ≠ pb ∧ y ≠ tb)) (fun y hy p => by have := hq; omega)
                     clear hO
                     have hO := hOs
                     clear hOs
                     have hp0 : wx.heap.size ≤ pb := by omega
                     have hB2 := below_on hB (show Below W.heap.size W W2 from by rw [hq]; exact bW)
                     have hS2 := HBS14.out _ hB2
                     have ht2 := ht.below (show Below W.heap.size W W2 from by rw [hq]; exact bW)
                     have hO2 := hO.below (show Below W.heap.size W W2 from by rw [hq]; exact bW)
                     clear hB hS ht hO
                     have hB := hB2
                     have hS := hS2
                     have ht := ht2
                     have hO := hO2
                     clear hB2 hS2 ht2 hO2
                     have hp := rW
                     clear rW bW zW hsz hq
                     refine hK.out _ _ hS (fun hSx => ?_)
                     clear hK K
                     try simp only [Act.put, List.setIfInBounds_toArray, List.set_cons_zero, List.set_cons_succ]
                     clear hSx
                     revert hO
                     revert ht0
                     revert ht
                     revert hp0
                     revert hp
                     revert hS
                     revert hB
                     revert e2
                     revert m2
                     revert C2
                     revert e1
                     revert m1
                     revert C1
                     revert tb
                     revert pb
                     revert W2
                     exact k3_12_13.down
                 case lk11_12 =>
                  as_aux_lemma =>
                   intro W nb pb hB hS hn hn0 hp hp0
                   refine wpAnyH_ready (rs := [3, 13]) (by kernel_rfl) (by simp) ?_
                   refine AllReadyH.cons (o := ⟨some 94, .call { callee := .value (.func 18), args := #[.tmp 92, .tmp 93], argTypes := #[35, 35] }, 51, "law.go:99", #[⟨1, .data⟩, ⟨2, .data⟩], none⟩) rfl (fun K hK => ?_) (AllReadyH.cons (o := ⟨some 18, .alloc 53, 0, "law.go:99", #[], none⟩) rfl (fun K hK => ?_) AllReadyH.nil)
                   · go_simp
                     go_at_call 18
                     refine (KOF.out _ hB).mono ?_
                     rintro e W2 ⟨C1, m1, e1, C2, m2, e2, rfl, oN, bN⟩
                     have hsz := hB.size
                     have hnlt := hn.lt
                     have hplt := hp.lt
                     have hON := oN.weak (Q := (fun y => wx.heap.size ≤ y ∧ y ≠ nb ∧ y ≠ pb)) (fun y hy p => by omega)
                     have hB2 := below_on hB bN
                     have hS2 := HBS14.out _ hB2
                     have hn2 := hn.below bN
                     have hp2 := hp.below bN
                     clear hB hS hn hp
                     have hB := hB2
                     have hS := hS2
                     have hn := hn2
                     have hp := hp2
                     clear hB2 hS2 hn2 hp2
                     have hO := hON
                     clear hON oN bN hsz hnlt hplt
                     go_wp2_with fail
                     refine hK.out _ _ hS (fun hSx => ?_)
                     clear hK K
                     try simp only [Act.put, List.setIfInBounds_toArray, List.set_cons_zero, List.set_cons_succ]
                     clear hSx
                     revert hO
                     revert hp0
                     revert hp
                     revert hn0
                     revert hn
                     revert hS
                     revert hB
                     revert e2
                     revert m2
                     revert C2
                     revert e1
                     revert m1
                     revert C1
                     revert pb
                     revert nb
                     revert W2
                     exact k3_11_12.down
                   · refine alloc_step rfl 53 rfl _ rtt_zero ?_
                     intro W2 rW bW zW
                     have hsz := hB.size
                     generalize hq : W.heap.size = tb at rW bW zW ⊢
                     have ht0 : wx.heap.size ≤ tb := by omega
                     have hB2 := below_on hB (show Below W.heap.size W W2 from by rw [hq]; exact bW)
                     have hS2 := HBS14.out _ hB2
                     have hn2 := hn.below (show Below W.heap.size W W2 from by rw [hq]; exact bW)
                     have hp2 := hp.below (show Below W.heap.size W W2 from by rw [hq]; exact bW)
                     clear hB hS hn hp
                     have hB := hB2
                     have hS := hS2
                     have hn := hn2
                     have hp := hp2
                     clear hB2 hS2 hn2 hp2
                     have ht := rW
                     clear rW bW zW hsz hq
                     refine hK.out _ _ hS (fun hSx => ?_)
                     clear hK K
                     try simp only [Act.put, List.setIfInBounds_toArray, List.set_cons_zero, List.set_cons_succ]
                     clear hSx
                     revert ht0
                     revert ht
                     revert hp0
                     revert hp
                     revert hn0
                     revert hn
                     revert hS
                     revert hB
                     revert tb
                     revert pb
                     revert nb
                     revert W2
                     exact k11_12_13.down
                 case lk11_13 =>
                  as_aux_lemma =>
                   intro W nb tb hB hS hn hn0 ht ht0
                   refine wpAnyH_ready (rs := [3, 12]) (by kernel_rfl) (by simp) ?_
                   refine AllReadyH.cons (o := ⟨some 94, .call { callee := .value (.func 18), args := #[.tmp 92, .tmp 93], argTypes := #[35, 35] }, 51, "law.go:99", #[⟨1, .data⟩, ⟨2, .data⟩], none⟩) rfl (fun K hK => ?_) (AllReadyH.cons (o := ⟨some 17, .alloc 51, 0, "law.go:99", #[], none⟩) rfl (fun K hK => ?_) AllReadyH.nil)
                   · go_simp
                     go_at_call 18
                     refine (KOF.out _ hB).mono ?_
                     rintro e W2 ⟨C1, m1, e1, C2, m2, e2, rfl, oN, bN⟩
                     have hsz := hB.size
                     have hnlt := hn.lt
                     have htlt := ht.lt
                     have hON := oN.weak (Q := (fun y => wx.heap.size ≤ y ∧ y ≠ nb ∧ y ≠ tb)) (fun y hy p => by omega)
                     have hB2 := below_on hB bN
                     have hS2 := HBS14.out _ hB2
                     have hn2 := hn.below bN
                     have ht2 := ht.below bN
                     clear hB hS hn ht
                     have hB := hB2
                     have hS := hS2
                     have hn := hn2
                     have ht := ht2
                     clear hB2 hS2 hn2 ht2
                     have hO := hON
                     clear hON oN bN hsz hnlt htlt
                     go_wp2_with fail
                     refine hK.out _ _ hS (fun hSx => ?_)
                     clear hK K
                     try simp only [Act.put, List.setIfInBounds_toArray, List.set_cons_zero, List.set_cons_succ]
                     clear hSx
                     revert hO
                     revert ht0
                     revert ht
                     revert hn0
                     revert hn
                     revert hS
                     revert hB
                     revert e2
                     revert m2
                     revert C2
                     revert e1
                     revert m1
                     revert C1
                     revert tb
                     revert nb
                     revert W2
                     exact k3_11_13.down
                   · refine alloc_step rfl 51 rfl _ rp17_zero ?_
                     intro W2 rW bW zW
                     have hsz := hB.size
                     generalize hq : W.heap.size = pb at rW bW zW ⊢
                     have hp0 : wx.heap.size ≤ pb := by omega
                     have hB2 := below_on hB (show Below W.heap.size W W2 from by rw [hq]; exact bW)
                     have hS2 := HBS14.out _ hB2
                     have hn2 := hn.below (show Below W.heap.size W W2 from by rw [hq]; exact bW)
                     have ht2 := ht.below (show Below W.heap.size W W2 from by rw [hq]; exact bW)
                     clear hB hS hn ht
                     have hB := hB2
                     have hS := hS2
                     have hn := hn2
                     have ht := ht2
                     clear hB2 hS2 hn2 ht2
                     have hp := rW
                     clear rW bW zW hsz hq
                     refine hK.out _ _ hS (fun hSx => ?_)
                     clear hK K
                     try simp only [Act.put, List.setIfInBounds_toArray, List.set_cons_zero, List.set_cons_succ]
                     clear hSx
                     revert ht0
                     revert ht
                     revert hp0
                     revert hp
                     revert hn0
                     revert hn
                     revert hS
                     revert hB
                     revert tb
                     revert pb
                     revert nb
                     revert W2
                     exact k11_12_13.down
                 case lk12_13 =>
                  as_aux_lemma =>
                   intro W pb tb hB hS hp hp0 ht ht0
                   refine wpAnyH_ready (rs := [3, 11]) (by kernel_rfl) (by simp) ?_
                   refine AllReadyH.cons (o := ⟨some 94, .call { callee := .value (.func 18), args := #[.tmp 92, .tmp 93], argTypes := #[35, 35] }, 51, "law.go:99", #[⟨1, .data⟩, ⟨2, .data⟩], none⟩) rfl (fun K hK => ?_) (AllReadyH.cons (o := ⟨some 16, .alloc 37, 0, "law.go:99", #[], none⟩) rfl (fun K hK => ?_) AllReadyH.nil)
                   · go_simp
                     go_at_call 18
                     refine (KOF.out _ hB).mono ?_
                     rintro e W2 ⟨C1, m1, e1, C2, m2, e2, rfl, oN, bN⟩
                     have hsz := hB.size
                     have hplt := hp.lt
                     have htlt := ht.lt
                     have hON := oN.weak (Q := (fun y => wx.heap.size ≤ y ∧ y ≠ pb ∧ y ≠ tb)) (fun y hy p => by omega)
                     have hB2 := below_on hB bN
                     have hS2 := HBS14.out _ hB2
                     have hp2 := hp.below bN
                     have ht2 := ht.below bN
                     clear hB hS hp ht
                     have hB := hB2
                     have hS := hS2
                     have hp := hp2
                     have ht := ht2
                     clear hB2 hS2 hp2 ht2
                     have hO := hON
                     clear hON oN bN hsz hplt htlt
                     go_wp2_with fail
                     refine hK.out _ _ hS (fun hSx => ?_)
                     clear hK K
                     try simp only [Act.put, List.setIfInBounds_toArray, List.set_cons_zero, List.set_cons_succ]
                     clear hSx
                     revert hO
                     revert ht0
                     revert ht
                     revert hp0
                     revert hp
                     revert hS
                     revert hB
                     revert e2
                     revert m2
                     revert C2
                     revert e1
                     revert m1
                     revert C1
                     revert tb
                     revert pb
                     revert W2
                     exact k3_12_13.down
                   · refine alloc_step rfl 37 rfl _ tv_zero ?_
                     intro W2 rW bW zW
                     have hsz := hB.size
                     generalize hq : W.heap.size = nb at rW bW zW ⊢
                     have hn0 : wx.heap.size ≤ nb := by omega
                     have hB2 := below_on hB (show Below W.heap.size W W2 from by rw [hq]; exact bW)
                     have hS2 := HBS14.out _ hB2
                     have hp2 := hp.below (show Below W.heap.size W W2 from by rw [hq]; exact bW)
                     have ht2 := ht.below (show Below W.heap.size W W2 from by rw [hq]; exact bW)
                     clear hB hS hp ht
                     have hB := hB2
                     have hS := hS2
                     have hp := hp2
                     have ht := ht2
                     clear hB2 hS2 hp2 ht2
                     have hn := rW
                     clear rW bW zW hsz hq
                     refine hK.out _ _ hS (fun hSx => ?_)
                     clear hK K
                     try simp only [Act.put, List.setIfInBounds_toArray, List.set_cons_zero, List.set_cons_succ]
                     clear hSx
                     revert ht0
                     revert ht
                     revert hp0
                     revert hp
                     revert hn0
                     revert hn
                     revert hS
                     revert hB
                     revert tb
                     revert pb
                     revert nb
                     revert W2
                     exact k11_12_13.down
                 case lk3_11_12 =>
                  as_aux_lemma =>
                   intro W nb pb C1 m1 e1 C2 m2 e2 hB hS hn hn0 hp hp0 hO
                   refine wpAnyH_ready (rs := [4, 13]) (by kernel_rfl) (by simp) ?_
                   refine AllReadyH.cons (o := ⟨some 95, .call { callee := .value (.func 17), args := #[.tmp 91, .tmp 94], argTypes := #[37, 51] }, 54, "law.go:99", #[⟨0, .data⟩, ⟨3, .data⟩, ⟨3, .chain⟩], none⟩) rfl (fun K hK => ?_) (AllReadyH.cons (o := ⟨some 18, .alloc 53, 0, "law.go:99", #[], none⟩) rfl (fun K hK => ?_) AllReadyH.nil)
                   · go_simp
                     go_at_call 17
                     refine (KST.out _ _ _ _ _ _ _ _ hB hO).mono ?_
                     rintro e W2 ⟨At2, nt2, ct2, Al2, nl2, cl2, Xa, za, da, Xb, zb, db, Xc, zc, dc, rfl, lN, oN, bN⟩
                     have hsz := hB.size
                     have hnlt := hn.lt
                     have hplt := hp.lt
                     have hRN := lN.weak (Q := (fun y => ((P y ∧ y < wx.heap.size) ∨ wx.heap.size ≤ y) ∧ y ≠ nb ∧ y ≠ pb)) (fun y hy p => ⟨by rcases p with p | p; exact .inl p; exact .inr (by omega), by rcases p with p | p <;> omega⟩)
                     have hQN := oN.weak (Q := (fun y => wx.heap.size ≤ y ∧ y ≠ nb ∧ y ≠ pb)) (fun y hy p => by (try dsimp only at p); omega)
                     clear hO
                     have hB2 := below_on hB bN
                     have hS2 := HBS14.out _ hB2
                     have hn2 := hn.below bN
                     have hp2 := hp.below bN
                     clear hB hS hn hp
                     have hB := hB2
                     have hS := hS2
                     have hn := hn2
                     have hp := hp2
                     clear hB2 hS2 hn2 hp2
                     have hR := hRN
                     have hQ := hQN
                     clear hRN hQN lN oN bN hsz hnlt hplt
                     go_wp2_with fail
                     refine hK.out _ _ hS (fun hSx => ?_)
                     clear hK K
                     try simp only [Act.put, List.setIfInBounds_toArray, List.set_cons_zero, List.set_cons_succ]
                     refine' wpAnyH_take (i := 5) (oi := ⟨some 90, .move (.tmp 95), 54, "law.go:99", #[⟨4, .data⟩], none⟩) (v := _) rfl (by kernel_rfl) (by kernel_rfl) (by kernel_rfl) (fun _ _ _ h => h) (Or.inl ⟨by rfl, ?hy163⟩) (by assumption) ?rest163
                     case hy163 => (intro w hSw; (try dsimp only at hSw); go_simp; try with_reducible rfl)
                     try simp only [Act.put, List.setIfInBounds_toArray, List.set_cons_zero, List.set_cons_succ]
                     refine' wpAnyH_take (i := 6) (oi := ⟨some 96, .extract (.tmp 90) 0, 37, "law.go:99", #[⟨5, .data⟩], none⟩) (v := _) rfl (by kernel_rfl) (by kernel_rfl) (by kernel_rfl) (fun _ _ _ h => h) (Or.inl ⟨by rfl, ?hy164⟩) (by assumption) ?rest164
                     case hy164 => (intro w hSw; (try dsimp only at hSw); go_simp; try with_reducible rfl)
                     try simp only [Act.put, List.setIfInBounds_toArray, List.set_cons_zero, List.set_cons_succ]
                     refine' wpAnyH_take (i := 7) (oi := ⟨some 97, .extract (.tmp 90) 1, 51, "law.go:99", #[⟨5, .data⟩, ⟨14, .gcOnly .lateStores⟩], none⟩) (v := _) rfl (by kernel_rfl) (by kernel_rfl) (by kernel_rfl) (fun _ _ _ h => h) (Or.inl ⟨by rfl, ?hy165⟩) (by assumption) ?rest165
                     case hy165 => (intro w hSw; (try dsimp only at hSw); go_simp; try with_reducible rfl)
                     try simp only [Act.put, List.setIfInBounds_toArray, List.set_cons_zero, List.set_cons_succ]
                     refine' wpAnyH_take (i := 8) (oi := ⟨some 98, .extract (.tmp 90) 2, 53, "law.go:99", #[⟨5, .data⟩, ⟨15, .gcOnly .lateStores⟩], none⟩) (v := _) rfl (by kernel_rfl) (by kernel_rfl) (by kernel_rfl) (fun _ _ _ h => h) (Or.inl ⟨by rfl, ?hy166⟩) (by assumption) ?rest166
                     case hy166 => (intro w hSw; (try dsimp only at hSw); go_simp; try with_reducible rfl)
                     try simp only [Act.put, List.setIfInBounds_toArray, List.set_cons_zero, List.set_cons_succ]
                     refine' wpAnyH_take (i := 9) (oi := ⟨some 99, .extract (.tmp 90) 3, 4, "law.go:99", #[⟨5, .data⟩, ⟨16, .gcOnly .lateStores⟩], none⟩) (v := _) rfl (by kernel_rfl) (by kernel_rfl) (by kernel_rfl) (fun _ _ _ h => h) (Or.inl ⟨by rfl, ?hy167⟩) (by assumption) ?rest167
                     case hy167 => (intro w hSw; (try dsimp only at hSw); go_simp; try with_reducible rfl)
                     try simp only [Act.put, List.setIfInBounds_toArray, List.set_cons_zero, List.set_cons_succ]
                     refine' wpAnyH_take (i := 10) (oi := ⟨some 100, .extract (.tmp 90) 4, 3, "law.go:99", #[⟨5, .data⟩, ⟨17, .gcOnly .lateStores⟩], none⟩) (v := _) rfl (by kernel_rfl) (by kernel_rfl) (by kernel_rfl) (fun _ _ _ h => h) (Or.inl ⟨by rfl, ?hy168⟩) (by assumption) ?rest168
                     case hy168 => (intro w hSw; (try dsimp only at hSw); go_simp; try with_reducible rfl)
                     try simp only [Act.put, List.setIfInBounds_toArray, List.set_cons_zero, List.set_cons_succ]
                     clear hSx
                     revert hQ
                     revert hR
                     revert hp0
                     revert hp
                     revert hn0
                     revert hn
                     revert hS
                     revert hB
                     revert dc
                     revert zc
                     revert Xc
                     revert db
                     revert zb
                     revert Xb
                     revert da
                     revert za
                     revert Xa
                     revert cl2
                     revert nl2
                     revert Al2
                     revert ct2
                     revert nt2
                     revert At2
                     revert e2
                     revert m2
                     revert C2
                     revert e1
                     revert m1
                     revert C1
                     revert pb
                     revert nb
                     revert W2
                     exact k3_4_11_12.down
                   · refine alloc_step rfl 53 rfl _ rtt_zero ?_
                     intro W2 rW bW zW
                     have hsz := hB.size
                     generalize hq : W.heap.size = tb at rW bW zW ⊢
                     have hOs := hO.weak (Q := (fun y => wx.heap.size ≤ y ∧ y ≠ nb ∧ y ≠ pb ∧ y ≠ tb)) (fun y hy p => by have := hq; omega)
                     clear hO
                     have hO := hOs
                     clear hOs
                     have ht0 : wx.heap.size ≤ tb := by omega
                     have hB2 := below_on hB (show Below W.heap.size W W2 from by rw [hq]; exact bW)
                     have hS2 := HBS14.out _ hB2
                     have hn2 := hn.below (show Below W.heap.size W W2 from by rw [hq]; exact bW)
                     have hp2 := hp.below (show Below W.heap.size W W2 from by rw [hq]; exact bW)
                     have hO2 := hO.below (show Below W.heap.size W W2 from by rw [hq]; exact bW)
                     clear hB hS hn hp hO
                     have hB := hB2
                     have hS := hS2
                     have hn := hn2
                     have hp := hp2
                     have hO := hO2
                     clear hB2 hS2 hn2 hp2 hO2
                     have ht := rW
                     clear rW bW zW hsz hq
                     refine hK.out _ _ hS (fun hSx => ?_)
                     clear hK K
                     try simp only [Act.put, List.setIfInBounds_toArray, List.set_cons_zero, List.set_cons_succ]
                     clear hSx
                     revert hO
                     revert ht0
                     revert ht
                     revert hp0
                     revert hp
                     revert hn0
                     revert hn
                     revert hS
                     revert hB
                     revert e2
                     revert m2
                     revert C2
                     revert e1
                     revert m1
                     revert C1
                     revert tb
                     revert pb
                     revert nb
                     revert W2
                     exact k3_11_12_13.down
                 case lk3_11_13 =>
                  as_aux_lemma =>
                   intro W nb tb C1 m1 e1 C2 m2 e2 hB hS hn hn0 ht ht0 hO
                   refine wpAnyH_ready (rs := [4, 12]) (by kernel_rfl) (by simp) ?_
                   refine AllReadyH.cons (o := ⟨some 95, .call { callee := .value (.func 17), args := #[.tmp 91, .tmp 94], argTypes := #[37, 51] }, 54, "law.go:99", #[⟨0, .data⟩, ⟨3, .data⟩, ⟨3, .chain⟩], none⟩) rfl (fun K hK => ?_) (AllReadyH.cons (o := ⟨some 17, .alloc 51, 0, "law.go:99", #[], none⟩) rfl (fun K hK => ?_) AllReadyH.nil)
                   · go_simp
                     go_at_call 17
                     refine (KST.out _ _ _ _ _ _ _ _ hB hO).mono ?_
                     rintro e W2 ⟨At2, nt2, ct2, Al2, nl2, cl2, Xa, za, da, Xb, zb, db, Xc, zc, dc, rfl, lN, oN, bN⟩
                     have hsz := hB.size
                     have hnlt := hn.lt
                     have htlt := ht.lt
                     have hRN := lN.weak (Q := (fun y => ((P y ∧ y < wx.heap.size) ∨ wx.heap.size ≤ y) ∧ y ≠ nb ∧ y ≠ tb)) (fun y hy p => ⟨by rcases p with p | p; exact .inl p; exact .inr (by omega), by rcases p with p | p <;> omega⟩)
                     have hQN := oN.weak (Q := (fun y => wx.heap.size ≤ y ∧ y ≠ nb ∧ y ≠ tb)) (fun y hy p => by (try dsimp only at p); omega)
                     clear hO
                     have hB2 := below_on hB bN
                     have hS2 := HBS14.out _ hB2
                     have hn2 := hn.below bN
                     have ht2 := ht.below bN
                     clear hB hS hn ht
                     have hB := hB2
                     have hS := hS2
                     have hn := hn2
                     have ht := ht2
                     clear hB2 hS2 hn2 ht2
                     have hR := hRN
                     have hQ := hQN
                     clear hRN hQN lN oN bN hsz hnlt htlt
                     go_wp2_with fail
                     refine hK.out _ _ hS (fun hSx => ?_)
                     clear hK K
                     try simp only [Act.put, List.setIfInBounds_toArray, List.set_cons_zero, List.set_cons_succ]
                     refine' wpAnyH_take (i := 5) (oi := ⟨some 90, .move (.tmp 95), 54, "law.go:99", #[⟨4, .data⟩], none⟩) (v := _) rfl (by kernel_rfl) (by kernel_rfl) (by kernel_rfl) (fun _ _ _ h => h) (Or.inl ⟨by rfl, ?hy169⟩) (by assumption) ?rest169
                     case hy169 => (intro w hSw; (try dsimp only at hSw); go_simp; try with_reducible rfl)
                     try simp only [Act.put, List.setIfInBounds_toArray, List.set_cons_zero, List.set_cons_succ]
                     refine' wpAnyH_take (i := 6) (oi := ⟨some 96, .extract (.tmp 90) 0, 37, "law.go:99", #[⟨5, .data⟩], none⟩) (v := _) rfl (by kernel_rfl) (by kernel_rfl) (by kernel_rfl) (fun _ _ _ h => h) (Or.inl ⟨by rfl, ?hy170⟩) (by assumption) ?rest170
                     case hy170 => (intro w hSw; (try dsimp only at hSw); go_simp; try with_reducible rfl)
                     try simp only [Act.put, List.setIfInBounds_toArray, List.set_cons_zero, List.set_cons_succ]
                     refine' wpAnyH_take (i := 7) (oi := ⟨some 97, .extract (.tmp 90) 1, 51, "law.go:99", #[⟨5, .data⟩, ⟨14, .gcOnly .lateStores⟩], none⟩) (v := _) rfl (by kernel_rfl) (by kernel_rfl) (by kernel_rfl) (fun _ _ _ h => h) (Or.inl ⟨by rfl, ?hy171⟩) (by assumption) ?rest171
                     case hy171 => (intro w hSw; (try dsimp only at hSw); go_simp; try with_reducible rfl)
                     try simp only [Act.put, List.setIfInBounds_toArray, List.set_cons_zero, List.set_cons_succ]
                     refine' wpAnyH_take (i := 8) (oi := ⟨some 98, .extract (.tmp 90) 2, 53, "law.go:99", #[⟨5, .data⟩, ⟨15, .gcOnly .lateStores⟩], none⟩) (v := _) rfl (by kernel_rfl) (by kernel_rfl) (by kernel_rfl) (fun _ _ _ h => h) (Or.inl ⟨by rfl, ?hy172⟩) (by assumption) ?rest172
                     case hy172 => (intro w hSw; (try dsimp only at hSw); go_simp; try with_reducible rfl)
                     try simp only [Act.put, List.setIfInBounds_toArray, List.set_cons_zero, List.set_cons_succ]
                     refine' wpAnyH_take (i := 9) (oi := ⟨some 99, .extract (.tmp 90) 3, 4, "law.go:99", #[⟨5, .data⟩, ⟨16, .gcOnly .lateStores⟩], none⟩) (v := _) rfl (by kernel_rfl) (by kernel_rfl) (by kernel_rfl) (fun _ _ _ h => h) (Or.inl ⟨by rfl, ?hy173⟩) (by assumption) ?rest173
                     case hy173 => (intro w hSw; (try dsimp only at hSw); go_simp; try with_reducible rfl)
                     try simp only [Act.put, List.setIfInBounds_toArray, List.set_cons_zero, List.set_cons_succ]
                     refine' wpAnyH_take (i := 10) (oi := ⟨some 100, .extract (.tmp 90) 4, 3, "law.go:99", #[⟨5, .data⟩, ⟨17, .gcOnly .lateStores⟩], none⟩) (v := _) rfl (by kernel_rfl) (by kernel_rfl) (by kernel_rfl) (fun _ _ _ h => h) (Or.inl ⟨by rfl, ?hy174⟩) (by assumption) ?rest174
                     case hy174 => (intro w hSw; (try dsimp only at hSw); go_simp; try with_reducible rfl)
                     try simp only [Act.put, List.setIfInBounds_toArray, List.set_cons_zero, List.set_cons_succ]
                     clear hSx
                     revert hQ
                     revert hR
                     revert ht0
                     revert ht
                     revert hn0
                     revert hn
                     revert hS
                     revert hB
                     revert dc
                     revert zc
                     revert Xc
                     revert db
                     revert zb
                     revert Xb
                     revert da
                     revert za
                     revert Xa
                     revert cl2
                     revert nl2
                     revert Al2
                     revert ct2
                     revert nt2
                     revert At2
                     revert e2
                     revert m2
                     revert C2
                     revert e1
                     revert m1
                     revert C1
                     revert tb
                     revert nb
                     revert W2
                     exact k3_4_11_13.down
                   · refine alloc_step rfl 51 rfl _ rp17_zero ?_
                     intro W2 rW bW zW
                     have hsz := hB.size
                     generalize hq : W.heap.size = pb at rW bW zW ⊢
                     have hOs := hO.weak (Q := (fun y => wx.heap.size ≤ y ∧ y ≠ nb ∧ y ≠ pb ∧ y ≠ tb)) (fun y hy p => by have := hq; omega)
                     clear hO
                     have hO := hOs
                     clear hOs
                     have hp0 : wx.heap.size ≤ pb := by omega
                     have hB2 := below_on hB (show Below W.heap.size W W2 from by rw [hq]; exact bW)
                     have hS2 := HBS14.out _ hB2
                     have hn2 := hn.below (show Below W.heap.size W W2 from by rw [hq]; exact bW)
                     have ht2 := ht.below (show Below W.heap.size W W2 from by rw [hq]; exact bW)
                     have hO2 := hO.below (show Below W.heap.size W W2 from by rw [hq]; exact bW)
                     clear hB hS hn ht hO
                     have hB := hB2
                     have hS := hS2
                     have hn := hn2
                     have ht := ht2
                     have hO := hO2
                     clear hB2 hS2 hn2 ht2 hO2
                     have hp := rW
                     clear rW bW zW hsz hq
                     refine hK.out _ _ hS (fun hSx => ?_)
                     clear hK K
                     try simp only [Act.put, List.setIfInBounds_toArray, List.set_cons_zero, List.set_cons_succ]
                     clear hSx
                     revert hO
                     revert ht0
                     revert ht
                     revert hp0
                     revert hp
                     revert hn0
                     revert hn
                     revert hS
                     revert hB
                     revert e2
                     revert m2
                     revert C2
                     revert e1
                     revert m1
                     revert C1
                     revert tb
                     revert pb
                     revert nb
                     revert W2
                     exact k3_11_12_13.down
                 case lk3_12_13 =>
                  as_aux_lemma =>
                   intro W pb tb C1 m1 e1 C2 m2 e2 hB hS hp hp0 ht ht0 hO
                   refine wpAnyH_ready (rs := [4, 11]) (by kernel_rfl) (by simp) ?_
                   refine AllReadyH.cons (o := ⟨some 95, .call { callee := .value (.func 17), args := #[.tmp 91, .tmp 94], argTypes := #[37, 51] }, 54, "law.go:99", #[⟨0, .data⟩, ⟨3, .data⟩, ⟨3, .chain⟩], none⟩) rfl (fun K hK => ?_) (AllReadyH.cons (o := ⟨some 16, .alloc 37, 0, "law.go:99", #[], none⟩) rfl (fun K hK => ?_) AllReadyH.nil)
                   · go_simp
                     go_at_call 17
                     refine (KST.out _ _ _ _ _ _ _ _ hB hO).mono ?_
                     rintro e W2 ⟨At2, nt2, ct2, Al2, nl2, cl2, Xa, za, da, Xb, zb, db, Xc, zc, dc, rfl, lN, oN, bN⟩
                     have hsz := hB.size
                     have hplt := hp.lt
                     have htlt := ht.lt
                     have hRN := lN.weak (Q := (fun y => ((P y ∧ y < wx.heap.size) ∨ wx.heap.size ≤ y) ∧ y ≠ pb ∧ y ≠ tb)) (fun y hy p => ⟨by rcases p with p | p; exact .inl p; exact .inr (by omega), by rcases p with p | p <;> omega⟩)
                     have hQN := oN.weak (Q := (fun y => wx.heap.size ≤ y ∧ y ≠ pb ∧ y ≠ tb)) (fun y hy p => by (try dsimp only at p); omega)
                     clear hO
                     have hB2 := below_on hB bN
                     have hS2 := HBS14.out _ hB2
                     have hp2 := hp.below bN
                     have ht2 := ht.below bN
                     clear hB hS hp ht
                     have hB := hB2
                     have hS := hS2
                     have hp := hp2
                     have ht := ht2
                     clear hB2 hS2 hp2 ht2
                     have hR := hRN
                     have hQ := hQN
                     clear hRN hQN lN oN bN hsz hplt htlt
                     go_wp2_with fail
                     refine hK.out _ _ hS (fun hSx => ?_)
                     clear hK K
                     try simp only [Act.put, List.setIfInBounds_toArray, List.set_cons_zero, List.set_cons_succ]
                     refine' wpAnyH_take (i := 5) (oi := ⟨some 90, .move (.tmp 95), 54, "law.go:99", #[⟨4, .data⟩], none⟩) (v := _) rfl (by kernel_rfl) (by kernel_rfl) (by kernel_rfl) (fun _ _ _ h => h) (Or.inl ⟨by rfl, ?hy175⟩) (by assumption) ?rest175
                     case hy175 => (intro w hSw; (try dsimp only at hSw); go_simp; try with_reducible rfl)
                     try simp only [Act.put, List.setIfInBounds_toArray, List.set_cons_zero, List.set_cons_succ]
                     refine' wpAnyH_take (i := 6) (oi := ⟨some 96, .extract (.tmp 90) 0, 37, "law.go:99", #[⟨5, .data⟩], none⟩) (v := _) rfl (by kernel_rfl) (by kernel_rfl) (by kernel_rfl) (fun _ _ _ h => h) (Or.inl ⟨by rfl, ?hy176⟩) (by assumption) ?rest176
                     case hy176 => (intro w hSw; (try dsimp only at hSw); go_simp; try with_reducible rfl)
                     try simp only [Act.put, List.setIfInBounds_toArray, List.set_cons_zero, List.set_cons_succ]
                     refine' wpAnyH_take (i := 7) (oi := ⟨some 97, .extract (.tmp 90) 1, 51, "law.go:99", #[⟨5, .data⟩, ⟨14, .gcOnly .lateStores⟩], none⟩) (v := _) rfl (by kernel_rfl) (by kernel_rfl) (by kernel_rfl) (fun _ _ _ h => h) (Or.inl ⟨by rfl, ?hy177⟩) (by assumption) ?rest177
                     case hy177 => (intro w hSw; (try dsimp only at hSw); go_simp; try with_reducible rfl)
                     try simp only [Act.put, List.setIfInBounds_toArray, List.set_cons_zero, List.set_cons_succ]
                     refine' wpAnyH_take (i := 8) (oi := ⟨some 98, .extract (.tmp 90) 2, 53, "law.go:99", #[⟨5, .data⟩, ⟨15, .gcOnly .lateStores⟩], none⟩) (v := _) rfl (by kernel_rfl) (by kernel_rfl) (by kernel_rfl) (fun _ _ _ h => h) (Or.inl ⟨by rfl, ?hy178⟩) (by assumption) ?rest178
                     case hy178 => (intro w hSw; (try dsimp only at hSw); go_simp; try with_reducible rfl)
                     try simp only [Act.put, List.setIfInBounds_toArray, List.set_cons_zero, List.set_cons_succ]
                     refine' wpAnyH_take (i := 9) (oi := ⟨some 99, .extract (.tmp 90) 3, 4, "law.go:99", #[⟨5, .data⟩, ⟨16, .gcOnly .lateStores⟩], none⟩) (v := _) rfl (by kernel_rfl) (by kernel_rfl) (by kernel_rfl) (fun _ _ _ h => h) (Or.inl ⟨by rfl, ?hy179⟩) (by assumption) ?rest179
                     case hy179 => (intro w hSw; (try dsimp only at hSw); go_simp; try with_reducible rfl)
                     try simp only [Act.put, List.setIfInBounds_toArray, List.set_cons_zero, List.set_cons_succ]
                     refine' wpAnyH_take (i := 10) (oi := ⟨some 100, .extract (.tmp 90) 4, 3, "law.go:99", #[⟨5, .data⟩, ⟨17, .gcOnly .lateStores⟩], none⟩) (v := _) rfl (by kernel_rfl) (by kernel_rfl) (by kernel_rfl) (fun _ _ _ h => h) (Or.inl ⟨by rfl, ?hy180⟩) (by assumption) ?rest180
                     case hy180 => (intro w hSw; (try dsimp only at hSw); go_simp; try with_reducible rfl)
                     try simp only [Act.put, List.setIfInBounds_toArray, List.set_cons_zero, List.set_cons_succ]
                     clear hSx
                     revert hQ
                     revert hR
                     revert ht0
                     revert ht
                     revert hp0
                     revert hp
                     revert hS
                     revert hB
                     revert dc
                     revert zc
                     revert Xc
                     revert db
                     revert zb
                     revert Xb
                     revert da
                     revert za
                     revert Xa
                     revert cl2
                     revert nl2
                     revert Al2
                     revert ct2
                     revert nt2
                     revert At2
                     revert e2
                     revert m2
                     revert C2
                     revert e1
                     revert m1
                     revert C1
                     revert tb
                     revert pb
                     revert W2
                     exact k3_4_12_13.down
                   · refine alloc_step rfl 37 rfl _ tv_zero ?_
                     intro W2 rW bW zW
                     have hsz := hB.size
                     generalize hq : W.heap.size = nb at rW bW zW ⊢
                     have hOs := hO.weak (Q := (fun y => wx.heap.size ≤ y ∧ y ≠ nb ∧ y ≠ pb ∧ y ≠ tb)) (fun y hy p => by have := hq; omega)
                     clear hO
                     have hO := hOs
                     clear hOs
                     have hn0 : wx.heap.size ≤ nb := by omega
                     have hB2 := below_on hB (show Below W.heap.size W W2 from by rw [hq]; exact bW)
                     have hS2 := HBS14.out _ hB2
                     have hp2 := hp.below (show Below W.heap.size W W2 from by rw [hq]; exact bW)
                     have ht2 := ht.below (show Below W.heap.size W W2 from by rw [hq]; exact bW)
                     have hO2 := hO.below (show Below W.heap.size W W2 from by rw [hq]; exact bW)
                     clear hB hS hp ht hO
                     have hB := hB2
                     have hS := hS2
                     have hp := hp2
                     have ht := ht2
                     have hO := hO2
                     clear hB2 hS2 hp2 ht2 hO2
                     have hn := rW
                     clear rW bW zW hsz hq
                     refine hK.out _ _ hS (fun hSx => ?_)
                     clear hK K
                     try simp only [Act.put, List.setIfInBounds_toArray, List.set_cons_zero, List.set_cons_succ]
                     clear hSx
                     revert hO
                     revert ht0
                     revert ht
                     revert hp0
                     revert hp
                     revert hn0
                     revert hn
                     revert hS
                     revert hB
                     revert e2
                     revert m2
                     revert C2
                     revert e1
                     revert m1
                     revert C1
                     revert tb
                     revert pb
                     revert nb
                     revert W2
                     exact k3_11_12_13.down
                 case lk11_12_13 =>
                  as_aux_lemma =>
                   intro W nb pb tb hB hS hn hn0 hp hp0 ht ht0
                   refine wpAnyH_ready (rs := [3]) (by kernel_rfl) (by simp) ?_
                   refine AllReadyH.cons (o := ⟨some 94, .call { callee := .value (.func 18), args := #[.tmp 92, .tmp 93], argTypes := #[35, 35] }, 51, "law.go:99", #[⟨1, .data⟩, ⟨2, .data⟩], none⟩) rfl (fun K hK => ?_) AllReadyH.nil
                   go_simp
                   go_at_call 18
                   refine (KOF.out _ hB).mono ?_
                   rintro e W2 ⟨C1, m1, e1, C2, m2, e2, rfl, oN, bN⟩
                   have hsz := hB.size
                   have hnlt := hn.lt
                   have hplt := hp.lt
                   have htlt := ht.lt
                   have hON := oN.weak (Q := (fun y => wx.heap.size ≤ y ∧ y ≠ nb ∧ y ≠ pb ∧ y ≠ tb)) (fun y hy p => by omega)
                   have hB2 := below_on hB bN
                   have hS2 := HBS14.out _ hB2
                   have hn2 := hn.below bN
                   have hp2 := hp.below bN
                   have ht2 := ht.below bN
                   clear hB hS hn hp ht
                   have hB := hB2
                   have hS := hS2
                   have hn := hn2
                   have hp := hp2
                   have ht := ht2
                   clear hB2 hS2 hn2 hp2 ht2
                   have hO := hON
                   clear hON oN bN hsz hnlt hplt htlt
                   go_wp2_with fail
                   refine hK.out _ _ hS (fun hSx => ?_)
                   clear hK K
                   try simp only [Act.put, List.setIfInBounds_toArray, List.set_cons_zero, List.set_cons_succ]
                   clear hSx
                   revert hO
                   revert ht0
                   revert ht
                   revert hp0
                   revert hp
                   revert hn0
                   revert hn
                   revert hS
                   revert hB
                   revert e2
                   revert m2
                   revert C2
                   revert e1
                   revert m1
                   revert C1
                   revert tb
                   revert pb
                   revert nb
                   revert W2
                   exact k3_11_12_13.down
                 case lk3_11_12_13 =>
                  as_aux_lemma =>
                   intro W nb pb tb C1 m1 e1 C2 m2 e2 hB hS hn hn0 hp hp0 ht ht0 hO
                   refine wpAnyH_ready (rs := [4]) (by kernel_rfl) (by simp) ?_
                   refine AllReadyH.cons (o := ⟨some 95, .call { callee := .value (.func 17), args := #[.tmp 91, .tmp 94], argTypes := #[37, 51] }, 54, "law.go:99", #[⟨0, .data⟩, ⟨3, .data⟩, ⟨3, .chain⟩], none⟩) rfl (fun K hK => ?_) AllReadyH.nil
                   go_simp
                   go_at_call 17
                   refine (KST.out _ _ _ _ _ _ _ _ hB hO).mono ?_
                   rintro e W2 ⟨At2, nt2, ct2, Al2, nl2, cl2, Xa, za, da, Xb, zb, db, Xc, zc, dc, rfl, lN, oN, bN⟩
                   have hsz := hB.size
                   have hnlt := hn.lt
                   have hplt := hp.lt
                   have htlt := ht.lt
                   have hRN := lN.weak (Q := (fun y => ((P y ∧ y < wx.heap.size) ∨ wx.heap.size ≤ y) ∧ y ≠ nb ∧ y ≠ pb ∧ y ≠ tb)) (fun y hy p => ⟨by rcases p with p | p; exact .inl p; exact .inr (by omega), by rcases p with p | p <;> omega⟩)
                   have hQN := oN.weak (Q := (fun y => wx.heap.size ≤ y ∧ y ≠ nb ∧ y ≠ pb ∧ y ≠ tb)) (fun y hy p => by (try dsimp only at p); omega)
                   clear hO
                   have hB2 := below_on hB bN
                   have hS2 := HBS14.out _ hB2
                   have hn2 := hn.below bN
                   have hp2 := hp.below bN
                   have ht2 := ht.below bN
                   clear hB hS hn hp ht
                   have hB := hB2
                   have hS := hS2
                   have hn := hn2
                   have hp := hp2
                   have ht := ht2
                   clear hB2 hS2 hn2 hp2 ht2
                   have hR := hRN
                   have hQ := hQN
                   clear hRN hQN lN oN bN hsz hnlt hplt htlt
                   go_wp2_with fail
                   refine hK.out _ _ hS (fun hSx => ?_)
                   clear hK K
                   try simp only [Act.put, List.setIfInBounds_toArray, List.set_cons_zero, List.set_cons_succ]
                   refine' wpAnyH_take (i := 5) (oi := ⟨some 90, .move (.tmp 95), 54, "law.go:99", #[⟨4, .data⟩], none⟩) (v := _) rfl (by kernel_rfl) (by kernel_rfl) (by kernel_rfl) (fun _ _ _ h => h) (Or.inl ⟨by rfl, ?hy181⟩) (by assumption) ?rest181
                   case hy181 => (intro w hSw; (try dsimp only at hSw); go_simp; try with_reducible rfl)
                   try simp only [Act.put, List.setIfInBounds_toArray, List.set_cons_zero, List.set_cons_succ]
                   refine' wpAnyH_take (i := 6) (oi := ⟨some 96, .extract (.tmp 90) 0, 37, "law.go:99", #[⟨5, .data⟩], none⟩) (v := _) rfl (by kernel_rfl) (by kernel_rfl) (by kernel_rfl) (fun _ _ _ h => h) (Or.inl ⟨by rfl, ?hy182⟩) (by assumption) ?rest182
                   case hy182 => (intro w hSw; (try dsimp only at hSw); go_simp; try with_reducible rfl)
                   try simp only [Act.put, List.setIfInBounds_toArray, List.set_cons_zero, List.set_cons_succ]
                   refine' wpAnyH_take (i := 7) (oi := ⟨some 97, .extract (.tmp 90) 1, 51, "law.go:99", #[⟨5, .data⟩, ⟨14, .gcOnly .lateStores⟩], none⟩) (v := _) rfl (by kernel_rfl) (by kernel_rfl) (by kernel_rfl) (fun _ _ _ h => h) (Or.inl ⟨by rfl, ?hy183⟩) (by assumption) ?rest183
                   case hy183 => (intro w hSw; (try dsimp only at hSw); go_simp; try with_reducible rfl)
                   try simp only [Act.put, List.setIfInBounds_toArray, List.set_cons_zero, List.set_cons_succ]
                   refine' wpAnyH_take (i := 8) (oi := ⟨some 98, .extract (.tmp 90) 2, 53, "law.go:99", #[⟨5, .data⟩, ⟨15, .gcOnly .lateStores⟩], none⟩) (v := _) rfl (by kernel_rfl) (by kernel_rfl) (by kernel_rfl) (fun _ _ _ h => h) (Or.inl ⟨by rfl, ?hy184⟩) (by assumption) ?rest184
                   case hy184 => (intro w hSw; (try dsimp only at hSw); go_simp; try with_reducible rfl)
                   try simp only [Act.put, List.setIfInBounds_toArray, List.set_cons_zero, List.set_cons_succ]
                   refine' wpAnyH_take (i := 9) (oi := ⟨some 99, .extract (.tmp 90) 3, 4, "law.go:99", #[⟨5, .data⟩, ⟨16, .gcOnly .lateStores⟩], none⟩) (v := _) rfl (by kernel_rfl) (by kernel_rfl) (by kernel_rfl) (fun _ _ _ h => h) (Or.inl ⟨by rfl, ?hy185⟩) (by assumption) ?rest185
                   case hy185 => (intro w hSw; (try dsimp only at hSw); go_simp; try with_reducible rfl)
                   try simp only [Act.put, List.setIfInBounds_toArray, List.set_cons_zero, List.set_cons_succ]
                   refine' wpAnyH_take (i := 10) (oi := ⟨some 100, .extract (.tmp 90) 4, 3, "law.go:99", #[⟨5, .data⟩, ⟨17, .gcOnly .lateStores⟩], none⟩) (v := _) rfl (by kernel_rfl) (by kernel_rfl) (by kernel_rfl) (fun _ _ _ h => h) (Or.inl ⟨by rfl, ?hy186⟩) (by assumption) ?rest186
                   case hy186 => (intro w hSw; (try dsimp only at hSw); go_simp; try with_reducible rfl)
                   try simp only [Act.put, List.setIfInBounds_toArray, List.set_cons_zero, List.set_cons_succ]
                   clear hSx
                   revert hQ
                   revert hR
                   revert ht0
                   revert ht
                   revert hp0
                   revert hp
                   revert hn0
                   revert hn
                   revert hS
                   revert hB
                   revert dc
                   revert zc
                   revert Xc
                   revert db
                   revert zb
                   revert Xb
                   revert da
                   revert za
                   revert Xa
                   revert cl2
                   revert nl2
                   revert Al2
                   revert ct2
                   revert nt2
                   revert At2
                   revert e2
                   revert m2
                   revert C2
                   revert e1
                   revert m1
                   revert C1
                   revert tb
                   revert pb
                   revert nb
                   revert W2
                   exact k3_4_11_12_13.down
                 case lk3_4 =>
                  as_aux_lemma =>
                   intro W C1 m1 e1 C2 m2 e2 At2 nt2 ct2 Al2 nl2 cl2 Xa za da Xb zb db Xc zc dc hB hS hR hQ
                   refine wpAnyH_ready (rs := [11, 12, 13]) (by kernel_rfl) (by simp) ?_
                   refine AllReadyH.cons (o := ⟨some 16, .alloc 37, 0, "law.go:99", #[], none⟩) rfl (fun K hK => ?_) (AllReadyH.cons (o := ⟨some 17, .alloc 51, 0, "law.go:99", #[], none⟩) rfl (fun K hK => ?_) (AllReadyH.cons (o := ⟨some 18, .alloc 53, 0, "law.go:99", #[], none⟩) rfl (fun K hK => ?_) AllReadyH.nil))
                   · refine alloc_step rfl 37 rfl _ tv_zero ?_
                     intro W2 rW bW zW
                     have hsz := hB.size
                     generalize hq : W.heap.size = nb at rW bW zW ⊢
                     have hRs := hR.weak (Q := (fun y => ((P y ∧ y < wx.heap.size) ∨ wx.heap.size ≤ y) ∧ y ≠ nb)) (fun y hy p => ⟨p, by have := hq; omega⟩)
                     clear hR
                     have hR := hRs
                     clear hRs
                     have hQs := hQ.weak (Q := (fun y => wx.heap.size ≤ y ∧ y ≠ nb)) (fun y hy p => by have := hq; omega)
                     clear hQ
                     have hQ := hQs
                     clear hQs
                     have hn0 : wx.heap.size ≤ nb := by omega
                     have hB2 := below_on hB (show Below W.heap.size W W2 from by rw [hq]; exact bW)
                     have hS2 := HBS14.out _ hB2
                     have hR2 := hR.below (show Below W.heap.size W W2 from by rw [hq]; exact bW)
                     have hQ2 := hQ.below (show Below W.heap.size W W2 from by rw [hq]; exact bW)
                     clear hB hS hR hQ
                     have hB := hB2
                     have hS := hS2
                     have hR := hR2
                     have hQ := hQ2
                     clear hB2 hS2 hR2 hQ2
                     have hn := rW
                     clear rW bW zW hsz hq
                     refine hK.out _ _ hS (fun hSx => ?_)
                     clear hK K
                     try simp only [Act.put, List.setIfInBounds_toArray, List.set_cons_zero, List.set_cons_succ]
                     clear hSx
                     revert hQ
                     revert hR
                     revert hn0
                     revert hn
                     revert hS
                     revert hB
                     revert dc
                     revert zc
                     revert Xc
                     revert db
                     revert zb
                     revert Xb
                     revert da
                     revert za
                     revert Xa
                     revert cl2
                     revert nl2
                     revert Al2
                     revert ct2
                     revert nt2
                     revert At2
                     revert e2
                     revert m2
                     revert C2
                     revert e1
                     revert m1
                     revert C1
                     revert nb
                     revert W2
                     exact k3_4_11.down
                   · refine alloc_step rfl 51 rfl _ rp17_zero ?_
                     intro W2 rW bW zW
                     have hsz := hB.size
                     generalize hq : W.heap.size = pb at rW bW zW ⊢
                     have hRs := hR.weak (Q := (fun y => ((P y ∧ y < wx.heap.size) ∨ wx.heap.size ≤ y) ∧ y ≠ pb)) (fun y hy p => ⟨p, by have := hq; omega⟩)
                     clear hR
                     have hR := hRs
                     clear hRs
                     have hQs := hQ.weak (Q := (fun y => wx.heap.size ≤ y ∧ y ≠ pb)) (fun y hy p => by have := hq; omega)
                     clear hQ
                     have hQ := hQs
                     clear hQs
                     have hp0 : wx.heap.size ≤ pb := by omega
                     have hB2 := below_on hB (show Below W.heap.size W W2 from by rw [hq]; exact bW)
                     have hS2 := HBS14.out _ hB2
                     have hR2 := hR.below (show Below W.heap.size W W2 from by rw [hq]; exact bW)
                     have hQ2 := hQ.below (show Below W.heap.size W W2 from by rw [hq]; exact bW)
                     clear hB hS hR hQ
                     have hB := hB2
                     have hS := hS2
                     have hR := hR2
                     have hQ := hQ2
                     clear hB2 hS2 hR2 hQ2
                     have hp := rW
                     clear rW bW zW hsz hq
                     refine hK.out _ _ hS (fun hSx => ?_)
                     clear hK K
                     try simp only [Act.put, List.setIfInBounds_toArray, List.set_cons_zero, List.set_cons_succ]
                     clear hSx
                     revert hQ
                     revert hR
                     revert hp0
                     revert hp
                     revert hS
                     revert hB
                     revert dc
                     revert zc
                     revert Xc
                     revert db
                     revert zb
                     revert Xb
                     revert da
                     revert za
                     revert Xa
                     revert cl2
                     revert nl2
                     revert Al2
                     revert ct2
                     revert nt2
                     revert At2
                     revert e2
                     revert m2
                     revert C2
                     revert e1
                     revert m1
                     revert C1
                     revert pb
                     revert W2
                     exact k3_4_12.down
                   · refine alloc_step rfl 53 rfl _ rtt_zero ?_
                     intro W2 rW bW zW
                     have hsz := hB.size
                     generalize hq : W.heap.size = tb at rW bW zW ⊢
                     have hRs := hR.weak (Q := (fun y => ((P y ∧ y < wx.heap.size) ∨ wx.heap.size ≤ y) ∧ y ≠ tb)) (fun y hy p => ⟨p, by have := hq; omega⟩)
                     clear hR
                     have hR := hRs
                     clear hRs
                     have hQs := hQ.weak (Q := (fun y => wx.heap.size ≤ y ∧ y ≠ tb)) (fun y hy p => by have := hq; omega)
                     clear hQ
                     have hQ := hQs
                     clear hQs
                     have ht0 : wx.heap.size ≤ tb := by omega
                     have hB2 := below_on hB (show Below W.heap.size W W2 from by rw [hq]; exact bW)
                     have hS2 := HBS14.out _ hB2
                     have hR2 := hR.below (show Below W.heap.size W W2 from by rw [hq]; exact bW)
                     have hQ2 := hQ.below (show Below W.heap.size W W2 from by rw [hq]; exact bW)
                     clear hB hS hR hQ
                     have hB := hB2
                     have hS := hS2
                     have hR := hR2
                     have hQ := hQ2
                     clear hB2 hS2 hR2 hQ2
                     have ht := rW
                     clear rW bW zW hsz hq
                     refine hK.out _ _ hS (fun hSx => ?_)
                     clear hK K
                     try simp only [Act.put, List.setIfInBounds_toArray, List.set_cons_zero, List.set_cons_succ]
                     clear hSx
                     revert hQ
                     revert hR
                     revert ht0
                     revert ht
                     revert hS
                     revert hB
                     revert dc
                     revert zc
                     revert Xc
                     revert db
                     revert zb
                     revert Xb
                     revert da
                     revert za
                     revert Xa
                     revert cl2
                     revert nl2
                     revert Al2
                     revert ct2
                     revert nt2
                     revert At2
                     revert e2
                     revert m2
                     revert C2
                     revert e1
                     revert m1
                     revert C1
                     revert tb
                     revert W2
                     exact k3_4_13.down
                 case lk3_4_11 =>
                  as_aux_lemma =>
                   intro W nb C1 m1 e1 C2 m2 e2 At2 nt2 ct2 Al2 nl2 cl2 Xa za da Xb zb db Xc zc dc hB hS hn hn0 hR hQ
                   refine wpAnyH_ready (rs := [12, 13]) (by kernel_rfl) (by simp) ?_
                   refine AllReadyH.cons (o := ⟨some 17, .alloc 51, 0, "law.go:99", #[], none⟩) rfl (fun K hK => ?_) (AllReadyH.cons (o := ⟨some 18, .alloc 53, 0, "law.go:99", #[], none⟩) rfl (fun K hK => ?_) AllReadyH.nil)
                   · refine alloc_step rfl 51 rfl _ rp17_zero ?_
                     intro W2 rW bW zW
                     have hsz := hB.size
                     generalize hq : W.heap.size = pb at rW bW zW ⊢
                     have hRs := hR.weak (Q := (fun y => ((P y ∧ y < wx.heap.size) ∨ wx.heap.size ≤ y) ∧ y ≠ nb ∧ y ≠ pb)) (fun y hy p => ⟨p.1, by have := hq; omega⟩)
                     clear hR
                     have hR := hRs
                     clear hRs
                     have hQs := hQ.weak (Q := (fun y => wx.heap.size ≤ y ∧ y ≠ nb ∧ y ≠ pb)) (fun y hy p => by have := hq; omega)
                     clear hQ
                     have hQ := hQs
                     clear hQs
                     have hp0 : wx.heap.size ≤ pb := by omega
                     have hB2 := below_on hB (show Below W.heap.size W W2 from by rw [hq]; exact bW)
                     have hS2 := HBS14.out _ hB2
                     have hn2 := hn.below (show Below W.heap.size W W2 from by rw [hq]; exact bW)
                     have hR2 := hR.below (show Below W.heap.size W W2 from by rw [hq]; exact bW)
                     have hQ2 := hQ.below (show Below W.heap.size W W2 from by rw [hq]; exact bW)
                     clear hB hS hn hR hQ
                     have hB := hB2
                     have hS := hS2
                     have hn := hn2
                     have hR := hR2
                     have hQ := hQ2
                     clear hB2 hS2 hn2 hR2 hQ2
                     have hp := rW
                     clear rW bW zW hsz hq
                     refine hK.out _ _ hS (fun hSx => ?_)
                     clear hK K
                     try simp only [Act.put, List.setIfInBounds_toArray, List.set_cons_zero, List.set_cons_succ]
                     clear hSx
                     revert hQ
                     revert hR
                     revert hp0
                     revert hp
                     revert hn0
                     revert hn
                     revert hS
                     revert hB
                     revert dc
                     revert zc
                     revert Xc
                     revert db
                     revert zb
                     revert Xb
                     revert da
                     revert za
                     revert Xa
                     revert cl2
                     revert nl2
                     revert Al2
                     revert ct2
                     revert nt2
                     revert At2
                     revert e2
                     revert m2
                     revert C2
                     revert e1
                     revert m1
                     revert C1
                     revert pb
                     revert nb
                     revert W2
                     exact k3_4_11_12.down
                   · refine alloc_step rfl 53 rfl _ rtt_zero ?_
                     intro W2 rW bW zW
                     have hsz := hB.size
                     generalize hq : W.heap.size = tb at rW bW zW ⊢
                     have hRs := hR.weak (Q := (fun y => ((P y ∧ y < wx.heap.size) ∨ wx.heap.size ≤ y) ∧ y ≠ nb ∧ y ≠ tb)) (fun y hy p => ⟨p.1, by have := hq; omega⟩)
                     clear hR
                     have hR := hRs
                     clear hRs
                     have hQs := hQ.weak (Q := (fun y => wx.heap.size ≤ y ∧ y ≠ nb ∧ y ≠ tb)) (fun y hy p => by have := hq; omega)
                     clear hQ
                     have hQ := hQs
                     clear hQs
                     have ht0 : wx.heap.size ≤ tb := by omega
                     have hB2 := below_on hB (show Below W.heap.size W W2 from by rw [hq]; exact bW)
                     have hS2 := HBS14.out _ hB2
                     have hn2 := hn.below (show Below W.heap.size W W2 from by rw [hq]; exact bW)
                     have hR2 := hR.below (show Below W.heap.size W W2 from by rw [hq]; exact bW)
                     have hQ2 := hQ.below (show Below W.heap.size W W2 from by rw [hq]; exact bW)
                     clear hB hS hn hR hQ
                     have hB := hB2
                     have hS := hS2
                     have hn := hn2
                     have hR := hR2
                     have hQ := hQ2
                     clear hB2 hS2 hn2 hR2 hQ2
                     have ht := rW
                     clear rW bW zW hsz hq
                     refine hK.out _ _ hS (fun hSx => ?_)
                     clear hK K
                     try simp only [Act.put, List.setIfInBounds_toArray, List.set_cons_zero, List.set_cons_succ]
                     clear hSx
                     revert hQ
                     revert hR
                     revert ht0
                     revert ht
                     revert hn0
                     revert hn
                     revert hS
                     revert hB
                     revert dc
                     revert zc
                     revert Xc
                     revert db
                     revert zb
                     revert Xb
                     revert da
                     revert za
                     revert Xa
                     revert cl2
                     revert nl2
                     revert Al2
                     revert ct2
                     revert nt2
                     revert At2
                     revert e2
                     revert m2
                     revert C2
                     revert e1
                     revert m1
                     revert C1
                     revert tb
                     revert nb
                     revert W2
                     exact k3_4_11_13.down
                 case lk3_4_12 =>
                  as_aux_lemma =>
                   intro W pb C1 m1 e1 C2 m2 e2 At2 nt2 ct2 Al2 nl2 cl2 Xa za da Xb zb db Xc zc dc hB hS hp hp0 hR hQ
                   refine wpAnyH_ready (rs := [11, 13]) (by kernel_rfl) (by simp) ?_
                   refine AllReadyH.cons (o := ⟨some 16, .alloc 37, 0, "law.go:99", #[], none⟩) rfl (fun K hK => ?_) (AllReadyH.cons (o := ⟨some 18, .alloc 53, 0, "law.go:99", #[], none⟩) rfl (fun K hK => ?_) AllReadyH.nil)
                   · refine alloc_step rfl 37 rfl _ tv_zero ?_
                     intro W2 rW bW zW
                     have hsz := hB.size
                     generalize hq : W.heap.size = nb at rW bW zW ⊢
                     have hRs := hR.weak (Q := (fun y => ((P y ∧ y < wx.heap.size) ∨ wx.heap.size ≤ y) ∧ y ≠ nb ∧ y ≠ pb)) (fun y hy p => ⟨p.1, by have := hq; omega⟩)
                     clear hR
                     have hR := hRs
                     clear hRs
                     have hQs := hQ.weak (Q := (fun y => wx.heap.size ≤ y ∧ y ≠ nb ∧ y ≠ pb)) (fun y hy p => by have := hq; omega)
                     clear hQ
                     have hQ := hQs
                     clear hQs
                     have hn0 : wx.heap.size ≤ nb := by omega
                     have hB2 := below_on hB (show Below W.heap.size W W2 from by rw [hq]; exact bW)
                     have hS2 := HBS14.out _ hB2
                     have hp2 := hp.below (show Below W.heap.size W W2 from by rw [hq]; exact bW)
                     have hR2 := hR.below (show Below W.heap.size W W2 from by rw [hq]; exact bW)
                     have hQ2 := hQ.below (show Below W.heap.size W W2 from by rw [hq]; exact bW)
                     clear hB hS hp hR hQ
                     have hB := hB2
                     have hS := hS2
                     have hp := hp2
                     have hR := hR2
                     have hQ := hQ2
                     clear hB2 hS2 hp2 hR2 hQ2
                     have hn := rW
                     clear rW bW zW hsz hq
                     refine hK.out _ _ hS (fun hSx => ?_)
                     clear hK K
                     try simp only [Act.put, List.setIfInBounds_toArray, List.set_cons_zero, List.set_cons_succ]
                     clear hSx
                     revert hQ
                     revert hR
                     revert hp0
                     revert hp
                     revert hn0
                     revert hn
                     revert hS
                     revert hB
                     revert dc
                     revert zc
                     revert Xc
                     revert db
                     revert zb
                     revert Xb
                     revert da
                     revert za
                     revert Xa
                     revert cl2
                     revert nl2
                     revert Al2
                     revert ct2
                     revert nt2
                     revert At2
                     revert e2
                     revert m2
                     revert C2
                     revert e1
                     revert m1
                     revert C1
                     revert pb
                     revert nb
                     revert W2
                     exact k3_4_11_12.down
                   · refine alloc_step rfl 53 rfl _ rtt_zero ?_
                     intro W2 rW bW zW
                     have hsz := hB.size
                     generalize hq : W.heap.size = tb at rW bW zW ⊢
                     have hRs := hR.weak (Q := (fun y => ((P y ∧ y < wx.heap.size) ∨ wx.heap.size ≤ y) ∧ y ≠ pb ∧ y ≠ tb)) (fun y hy p => ⟨p.1, by have := hq; omega⟩)
                     clear hR
                     have hR := hRs
                     clear hRs
                     have hQs := hQ.weak (Q := (fun y => wx.heap.size ≤ y ∧ y ≠ pb ∧ y ≠ tb)) (fun y hy p => by have := hq; omega)
                     clear hQ
                     have hQ := hQs
                     clear hQs
                     have ht0 : wx.heap.size ≤ tb := by omega
                     have hB2 := below_on hB (show Below W.heap.size W W2 from by rw [hq]; exact bW)
                     have hS2 := HBS14.out _ hB2
                     have hp2 := hp.below (show Below W.heap.size W W2 from by rw [hq]; exact bW)
                     have hR2 := hR.below (show Below W.heap.size W W2 from by rw [hq]; exact bW)
                     have hQ2 := hQ.below (show Below W.heap.size W W2 from by rw [hq]; exact bW)
                     clear hB hS hp hR hQ
                     have hB := hB2
                     have hS := hS2
                     have hp := hp2
                     have hR := hR2
                     have hQ := hQ2
                     clear hB2 hS2 hp2 hR2 hQ2
                     have ht := rW
                     clear rW bW zW hsz hq
                     refine hK.out _ _ hS (fun hSx => ?_)
                     clear hK K
                     try simp only [Act.put, List.setIfInBounds_toArray, List.set_cons_zero, List.set_cons_succ]
                     clear hSx
                     revert hQ
                     revert hR
                     revert ht0
                     revert ht
                     revert hp0
                     revert hp
                     revert hS
                     revert hB
                     revert dc
                     revert zc
                     revert Xc
                     revert db
                     revert zb
                     revert Xb
                     revert da
                     revert za
                     revert Xa
                     revert cl2
                     revert nl2
                     revert Al2
                     revert ct2
                     revert nt2
                     revert At2
                     revert e2
                     revert m2
                     revert C2
                     revert e1
                     revert m1
                     revert C1
                     revert tb
                     revert pb
                     revert W2
                     exact k3_4_12_13.down
                 case lk3_4_13 =>
                  as_aux_lemma =>
                   intro W tb C1 m1 e1 C2 m2 e2 At2 nt2 ct2 Al2 nl2 cl2 Xa za da Xb zb db Xc zc dc hB hS ht ht0 hR hQ
                   refine wpAnyH_ready (rs := [11, 12]) (by kernel_rfl) (by simp) ?_
                   refine AllReadyH.cons (o := ⟨some 16, .alloc 37, 0, "law.go:99", #[], none⟩) rfl (fun K hK => ?_) (AllReadyH.cons (o := ⟨some 17, .alloc 51, 0, "law.go:99", #[], none⟩) rfl (fun K hK => ?_) AllReadyH.nil)
                   · refine alloc_step rfl 37 rfl _ tv_zero ?_
                     intro W2 rW bW zW
                     have hsz := hB.size
                     generalize hq : W.heap.size = nb at rW bW zW ⊢
                     have hRs := hR.weak (Q := (fun y => ((P y ∧ y < wx.heap.size) ∨ wx.heap.size ≤ y) ∧ y ≠ nb ∧ y ≠ tb)) (fun y hy p => ⟨p.1, by have := hq; omega⟩)
                     clear hR
                     have hR := hRs
                     clear hRs
                     have hQs := hQ.weak (Q := (fun y => wx.heap.size ≤ y ∧ y ≠ nb ∧ y ≠ tb)) (fun y hy p => by have := hq; omega)
                     clear hQ
                     have hQ := hQs
                     clear hQs
                     have hn0 : wx.heap.size ≤ nb := by omega
                     have hB2 := below_on hB (show Below W.heap.size W W2 from by rw [hq]; exact bW)
                     have hS2 := HBS14.out _ hB2
                     have ht2 := ht.below (show Below W.heap.size W W2 from by rw [hq]; exact bW)
                     have hR2 := hR.below (show Below W.heap.size W W2 from by rw [hq]; exact bW)
                     have hQ2 := hQ.below (show Below W.heap.size W W2 from by rw [hq]; exact bW)
                     clear hB hS ht hR hQ
                     have hB := hB2
                     have hS := hS2
                     have ht := ht2
                     have hR := hR2
                     have hQ := hQ2
                     clear hB2 hS2 ht2 hR2 hQ2
                     have hn := rW
                     clear rW bW zW hsz hq
                     refine hK.out _ _ hS (fun hSx => ?_)
                     clear hK K
                     try simp only [Act.put, List.setIfInBounds_toArray, List.set_cons_zero, List.set_cons_succ]
                     clear hSx
                     revert hQ
                     revert hR
                     revert ht0
                     revert ht
                     revert hn0
                     revert hn
                     revert hS
                     revert hB
                     revert dc
                     revert zc
                     revert Xc
                     revert db
                     revert zb
                     revert Xb
                     revert da
                     revert za
                     revert Xa
                     revert cl2
                     revert nl2
                     revert Al2
                     revert ct2
                     revert nt2
                     revert At2
                     revert e2
                     revert m2
                     revert C2
                     revert e1
                     revert m1
                     revert C1
                     revert tb
                     revert nb
                     revert W2
                     exact k3_4_11_13.down
                   · refine alloc_step rfl 51 rfl _ rp17_zero ?_
                     intro W2 rW bW zW
                     have hsz := hB.size
                     generalize hq : W.heap.size = pb at rW bW zW ⊢
                     have hRs := hR.weak (Q := (fun y => ((P y ∧ y < wx.heap.size) ∨ wx.heap.size ≤ y) ∧ y ≠ pb ∧ y ≠ tb)) (fun y hy p => ⟨p.1, by have := hq; omega⟩)
                     clear hR
                     have hR := hRs
                     clear hRs
                     have hQs := hQ.weak (Q := (fun y => wx.heap.size ≤ y ∧ y ≠ pb ∧ y ≠ tb)) (fun y hy p => by have := hq; omega)
                     clear hQ
                     have hQ := hQs
                     clear hQs
                     have hp0 : wx.heap.size ≤ pb := by omega
                     have hB2 := below_on hB (show Below W.heap.size W W2 from by rw [hq]; exact bW)
                     have hS2 := HBS14.out _ hB2
                     have ht2 := ht.below (show Below W.heap.size W W2 from by rw [hq]; exact bW)
                     have hR2 := hR.below (show Below W.heap.size W W2 from by rw [hq]; exact bW)
                     have hQ2 := hQ.below (show Below W.heap.size W W2 from by rw [hq]; exact bW)
                     clear hB hS ht hR hQ
                     have hB := hB2
                     have hS := hS2
                     have ht := ht2
                     have hR := hR2
                     have hQ := hQ2
                     clear hB2 hS2 ht2 hR2 hQ2
                     have hp := rW
                     clear rW bW zW hsz hq
                     refine hK.out _ _ hS (fun hSx => ?_)
                     clear hK K
                     try simp only [Act.put, List.setIfInBounds_toArray, List.set_cons_zero, List.set_cons_succ]
                     clear hSx
                     revert hQ
                     revert hR
                     revert ht0
                     revert ht
                     revert hp0
                     revert hp
                     revert hS
                     revert hB
                     revert dc
                     revert zc
                     revert Xc
                     revert db
                     revert zb
                     revert Xb
                     revert da
                     revert za
                     revert Xa
                     revert cl2
                     revert nl2
                     revert Al2
                     revert ct2
                     revert nt2
                     revert At2
                     revert e2
                     revert m2
                     revert C2
                     revert e1
                     revert m1
                     revert C1
                     revert tb
                     revert pb
                     revert W2
                     exact k3_4_12_13.down
                 case lk3_4_11_12 =>
                  as_aux_lemma =>
                   intro W nb pb C1 m1 e1 C2 m2 e2 At2 nt2 ct2 Al2 nl2 cl2 Xa za da Xb zb db Xc zc dc hB hS hn hn0 hp hp0 hR hQ
                   refine wpAnyH_ready (rs := [13]) (by kernel_rfl) (by simp) ?_
                   refine AllReadyH.cons (o := ⟨some 18, .alloc 53, 0, "law.go:99", #[], none⟩) rfl (fun K hK => ?_) AllReadyH.nil
                   refine alloc_step rfl 53 rfl _ rtt_zero ?_
                   intro W2 rW bW zW
                   have hsz := hB.size
                   generalize hq : W.heap.size = tb at rW bW zW ⊢
                   have hRs := hR.weak (Q := (fun y => ((P y ∧ y < wx.heap.size) ∨ wx.heap.size ≤ y) ∧ y ≠ nb ∧ y ≠ pb ∧ y ≠ tb)) (fun y hy p => ⟨p.1, by have := hq; omega⟩)
                   clear hR
                   have hR := hRs
                   clear hRs
                   have hQs := hQ.weak (Q := (fun y => wx.heap.size ≤ y ∧ y ≠ nb ∧ y ≠ pb ∧ y ≠ tb)) (fun y hy p => by have := hq; omega)
                   clear hQ
                   have hQ := hQs
                   clear hQs
                   have ht0 : wx.heap.size ≤ tb := by omega
                   have hB2 := below_on hB (show Below W.heap.size W W2 from by rw [hq]; exact bW)
                   have hS2 := HBS14.out _ hB2
                   have hn2 := hn.below (show Below W.heap.size W W2 from by rw [hq]; exact bW)
                   have hp2 := hp.below (show Below W.heap.size W W2 from by rw [hq]; exact bW)
                   have hR2 := hR.below (show Below W.heap.size W W2 from by rw [hq]; exact bW)
                   have hQ2 := hQ.below (show Below W.heap.size W W2 from by rw [hq]; exact bW)
                   clear hB hS hn hp hR hQ
                   have hB := hB2
                   have hS := hS2
                   have hn := hn2
                   have hp := hp2
                   have hR := hR2
                   have hQ := hQ2
                   clear hB2 hS2 hn2 hp2 hR2 hQ2
                   have ht := rW
                   clear rW bW zW hsz hq
                   refine hK.out _ _ hS (fun hSx => ?_)
                   clear hK K
                   try simp only [Act.put, List.setIfInBounds_toArray, List.set_cons_zero, List.set_cons_succ]
                   clear hSx
                   revert hQ
                   revert hR
                   revert ht0
                   revert ht
                   revert hp0
                   revert hp
                   revert hn0
                   revert hn
                   revert hS
                   revert hB
                   revert dc
                   revert zc
                   revert Xc
                   revert db
                   revert zb
                   revert Xb
                   revert da
                   revert za
                   revert Xa
                   revert cl2
                   revert nl2
                   revert Al2
                   revert ct2
                   revert nt2
                   revert At2
                   revert e2
                   revert m2
                   revert C2
                   revert e1
                   revert m1
                   revert C1
                   revert tb
                   revert pb
                   revert nb
                   revert W2
                   exact k3_4_11_12_13.down
                 case lk3_4_11_13 =>
                  as_aux_lemma =>
                   intro W nb tb C1 m1 e1 C2 m2 e2 At2 nt2 ct2 Al2 nl2 cl2 Xa za da Xb zb db Xc zc dc hB hS hn hn0 ht ht0 hR hQ
                   refine wpAnyH_ready (rs := [12]) (by kernel_rfl) (by simp) ?_
                   refine AllReadyH.cons (o := ⟨some 17, .alloc 51, 0, "law.go:99", #[], none⟩) rfl (fun K hK => ?_) AllReadyH.nil
                   refine alloc_step rfl 51 rfl _ rp17_zero ?_
                   intro W2 rW bW zW
                   have hsz := hB.size
                   generalize hq : W.heap.size = pb at rW bW zW ⊢
                   have hRs := hR.weak (Q := (fun y => ((P y ∧ y < wx.heap.size) ∨ wx.heap.size ≤ y) ∧ y ≠ nb ∧ y ≠ pb ∧ y ≠ tb)) (fun y hy p => ⟨p.1, by have := hq; omega⟩)
                   clear hR
                   have hR := hRs
                   clear hRs
                   have hQs := hQ.weak (Q := (fun y => wx.heap.size ≤ y ∧ y ≠ nb ∧ y ≠ pb ∧ y ≠ tb)) (fun y hy p => by have := hq; omega)
                   clear hQ
                   have hQ := hQs
                   clear hQs
                   have hp0 : wx.heap.size ≤ pb := by omega
                   have hB2 := below_on hB (show Below W.heap.size W W2 from by rw [hq]; exact bW)
                   have hS2 := HBS14.out _ hB2
                   have hn2 := hn.below (show Below W.heap.size W W2 from by rw [hq]; exact bW)
                   have ht2 := ht.below (show Below W.heap.size W W2 from by rw [hq]; exact bW)
                   have hR2 := hR.below (show Below W.heap.size W W2 from by rw [hq]; exact bW)
                   have hQ2 := hQ.below (show Below W.heap.size W W2 from by rw [hq]; exact bW)
                   clear hB hS hn ht hR hQ
                   have hB := hB2
                   have hS := hS2
                   have hn := hn2
                   have ht := ht2
                   have hR := hR2
                   have hQ := hQ2
                   clear hB2 hS2 hn2 ht2 hR2 hQ2
                   have hp := rW
                   clear rW bW zW hsz hq
                   refine hK.out _ _ hS (fun hSx => ?_)
                   clear hK K
                   try simp only [Act.put, List.setIfInBounds_toArray, List.set_cons_zero, List.set_cons_succ]
                   clear hSx
                   revert hQ
                   revert hR
                   revert ht0
                   revert ht
                   revert hp0
                   revert hp
                   revert hn0
                   revert hn
                   revert hS
                   revert hB
                   revert dc
                   revert zc
                   revert Xc
                   revert db
                   revert zb
                   revert Xb
                   revert da
                   revert za
                   revert Xa
                   revert cl2
                   revert nl2
                   revert Al2
                   revert ct2
                   revert nt2
                   revert At2
                   revert e2
                   revert m2
                   revert C2
                   revert e1
                   revert m1
                   revert C1
                   revert tb
                   revert pb
                   revert nb
                   revert W2
                   exact k3_4_11_12_13.down
                 case lk3_4_12_13 =>
                  as_aux_lemma =>
                   intro W pb tb C1 m1 e1 C2 m2 e2 At2 nt2 ct2 Al2 nl2 cl2 Xa za da Xb zb db Xc zc dc hB hS hp hp0 ht ht0 hR hQ
                   refine wpAnyH_ready (rs := [11]) (by kernel_rfl) (by simp) ?_
                   refine AllReadyH.cons (o := ⟨some 16, .alloc 37, 0, "law.go:99", #[], none⟩) rfl (fun K hK => ?_) AllReadyH.nil
                   refine alloc_step rfl 37 rfl _ tv_zero ?_
                   intro W2 rW bW zW
                   have hsz := hB.size
                   generalize hq : W.heap.size = nb at rW bW zW ⊢
                   have hRs := hR.weak (Q := (fun y => ((P y ∧ y < wx.heap.size) ∨ wx.heap.size ≤ y) ∧ y ≠ nb ∧ y ≠ pb ∧ y ≠ tb)) (fun y hy p => ⟨p.1, by have := hq; omega⟩)
                   clear hR
                   have hR := hRs
                   clear hRs
                   have hQs := hQ.weak (Q := (fun y => wx.heap.size ≤ y ∧ y ≠ nb ∧ y ≠ pb ∧ y ≠ tb)) (fun y hy p => by have := hq; omega)
                   clear hQ
                   have hQ := hQs
                   clear hQs
                   have hn0 : wx.heap.size ≤ nb := by omega
                   have hB2 := below_on hB (show Below W.heap.size W W2 from by rw [hq]; exact bW)
                   have hS2 := HBS14.out _ hB2
                   have hp2 := hp.below (show Below W.heap.size W W2 from by rw [hq]; exact bW)
                   have ht2 := ht.below (show Below W.heap.size W W2 from by rw [hq]; exact bW)
                   have hR2 := hR.below (show Below W.heap.size W W2 from by rw [hq]; exact bW)
                   have hQ2 := hQ.below (show Below W.heap.size W W2 from by rw [hq]; exact bW)
                   clear hB hS hp ht hR hQ
                   have hB := hB2
                   have hS := hS2
                   have hp := hp2
                   have ht := ht2
                   have hR := hR2
                   have hQ := hQ2
                   clear hB2 hS2 hp2 ht2 hR2 hQ2
                   have hn := rW
                   clear rW bW zW hsz hq
                   refine hK.out _ _ hS (fun hSx => ?_)
                   clear hK K
                   try simp only [Act.put, List.setIfInBounds_toArray, List.set_cons_zero, List.set_cons_succ]
                   clear hSx
                   revert hQ
                   revert hR
                   revert ht0
                   revert ht
                   revert hp0
                   revert hp
                   revert hn0
                   revert hn
                   revert hS
                   revert hB
                   revert dc
                   revert zc
                   revert Xc
                   revert db
                   revert zb
                   revert Xb
                   revert da
                   revert za
                   revert Xa
                   revert cl2
                   revert nl2
                   revert Al2
                   revert ct2
                   revert nt2
                   revert At2
                   revert e2
                   revert m2
                   revert C2
                   revert e1
                   revert m1
                   revert C1
                   revert tb
                   revert pb
                   revert nb
                   revert W2
                   exact k3_4_11_12_13.down
                 as_aux_lemma =>
                  intro W nb pb tb C1 m1 e1 C2 m2 e2 At2 nt2 ct2 Al2 nl2 cl2 Xa za da Xb zb db Xc zc dc hB hS hn hn0 hp hp0 ht ht0 hR hQ
                  refine wpAnyH_ready (rs := [14]) (by kernel_rfl) (by simp) ?_
                  refine AllReadyH.cons (o := ⟨none, .store 37 (.tmp 16) (.tmp 96), 0, "law.go:99", #[⟨11, .data⟩, ⟨6, .data⟩, ⟨4, .chain⟩, ⟨0, .phase⟩, ⟨1, .phase⟩, ⟨2, .phase⟩, ⟨3, .phase⟩, ⟨4, .phase⟩, ⟨5, .phase⟩, ⟨6, .phase⟩, ⟨7, .textOnly .lateStores⟩, ⟨8, .textOnly .lateStores⟩, ⟨9, .textOnly .lateStores⟩, ⟨10, .textOnly .lateStores⟩, ⟨11, .phase⟩, ⟨12, .phase⟩, ⟨13, .phase⟩], none⟩) rfl (fun K hK => ?_) AllReadyH.nil
                  have hne1 := Row.ne hn hp (by decide)
                  have hne2 := Row.ne hn ht (by decide)
                  have hne3 := Row.ne hp ht (by decide)
                  refine storeRow_step rfl 37 (.tmp 16) (.tmp 96) rfl nb rfl (tvC R2 (.slice At2 nt2 ct2) (.slice Al2 nl2 cl2)) rfl (HSZ.out _ _ _) 37 tvZ hn rfl (tv_one _) ?_
                  intro wS rwS owS zwS
                  have hBwS := Only.below hB owS hB.size (fun y hy e => by omega)
                  have hSwS := HBS14.out _ hBwS
                  have hRwS := hR.only owS (fun y e p => by omega)
                  have hQwS := hQ.only owS (fun y e p => by omega)
                  have hpwS := hp.only owS (fun e => hne1 e.symm)
                  have htwS := ht.only owS (fun e => hne2 e.symm)
                  clear hB hS hR hQ hp ht hn
                  have hB := hBwS
                  have hS := hSwS
                  have hR := hRwS
                  have hQ := hQwS
                  have hp := hpwS
                  have ht := htwS
                  have hn := rwS
                  clear hBwS hSwS hRwS hQwS hpwS htwS rwS owS zwS
                  refine hK.out _ _ hS (fun hSx => ?_)
                  clear hK K
                  try simp only [Act.put]
                  refine wpAnyH_ready (rs := [15]) (by kernel_rfl) (by simp) ?_
                  refine AllReadyH.cons (o := ⟨none, .store 51 (.tmp 17) (.tmp 97), 0, "law.go:99", #[⟨12, .data⟩, ⟨7, .data⟩, ⟨14, .chain⟩, ⟨0, .phase⟩, ⟨1, .phase⟩, ⟨2, .phase⟩, ⟨3, .phase⟩, ⟨4, .phase⟩, ⟨5, .phase⟩, ⟨6, .phase⟩, ⟨7, .phase⟩, ⟨8, .textOnly .lateStores⟩, ⟨9, .textOnly .lateStores⟩, ⟨10, .textOnly .lateStores⟩, ⟨11, .phase⟩, ⟨12, .phase⟩, ⟨13, .phase⟩, ⟨14, .phase⟩], none⟩) rfl (fun K hK => ?_) AllReadyH.nil
                  refine storeRow_step rfl 51 (.tmp 17) (.tmp 97) rfl pb rfl ([.slice Xa za da, .slice Xb zb db, .slice Xc zc dc]) rfl (rp17_size.trans (congrArg some rfl)) 51 plZ17 hp rfl rp17_one ?_
                  intro wT rwT owT zwT
                  have hBwT := Only.below hB owT hB.size (fun y hy e => by omega)
                  have hSwT := HBS14.out _ hBwT
                  have hRwT := hR.only owT (fun y e p => by omega)
                  have hQwT := hQ.only owT (fun y e p => by omega)
                  have hnwT := hn.only owT (fun e => hne1 e)
                  have htwT := ht.only owT (fun e => hne3 e.symm)
                  clear hB hS hR hQ hn ht hp
                  have hB := hBwT
                  have hS := hSwT
                  have hR := hRwT
                  have hQ := hQwT
                  have hn := hnwT
                  have ht := htwT
                  have hp := rwT
                  clear hBwT hSwT hRwT hQwT hnwT htwT rwT owT zwT
                  refine hK.out _ _ hS (fun hSx => ?_)
                  clear hK K
                  try simp only [Act.put]
                  refine wpAnyH_ready (rs := [16]) (by kernel_rfl) (by simp) ?_
                  refine AllReadyH.cons (o := ⟨none, .store 53 (.tmp 18) (.tmp 98), 0, "law.go:99", #[⟨13, .data⟩, ⟨8, .data⟩, ⟨15, .chain⟩, ⟨0, .phase⟩, ⟨1, .phase⟩, ⟨2, .phase⟩, ⟨3, .phase⟩, ⟨4, .phase⟩, ⟨5, .phase⟩, ⟨6, .phase⟩, ⟨7, .phase⟩, ⟨8, .phase⟩, ⟨9, .textOnly .lateStores⟩, ⟨10, .textOnly .lateStores⟩, ⟨11, .phase⟩, ⟨12, .phase⟩, ⟨13, .phase⟩, ⟨14, .phase⟩, ⟨15, .phase⟩], none⟩) rfl (fun K hK => ?_) AllReadyH.nil
                  refine storeRow_step rfl 53 (.tmp 18) (.tmp 98) rfl tb rfl (tcT xX.1 xX.2.1 xX.2.2) rfl (rtt_size.trans (congrArg some rfl)) 53 (tcT 0 0 0) ht rfl (rtt_one _ _ _) ?_
                  intro wU rwU owU zwU
                  have hBwU := Only.below hB owU hB.size (fun y hy e => by omega)
                  have hSwU := HBS14.out _ hBwU
                  have hRwU := hR.only owU (fun y e p => by omega)
                  have hQwU := hQ.only owU (fun y e p => by omega)
                  have hnwU := hn.only owU (fun e => hne2 e)
                  have hpwU := hp.only owU (fun e => hne3 e)
                  clear hB hS hR hQ hn hp ht
                  have hB := hBwU
                  have hS := hSwU
                  have hR := hRwU
                  have hQ := hQwU
                  have hn := hnwU
                  have hp := hpwU
                  have ht := rwU
                  clear hBwU hSwU hRwU hQwU hnwU hpwU rwU owU zwU
                  refine hK.out _ _ hS (fun hSx => ?_)
                  clear hK K
                  try simp only [Act.put]
                  refine' wpAnyH_take (i := 17) (oi := ⟨some 19, .assign (.tmp 99), 4, "law.go:99", #[⟨9, .data⟩, ⟨16, .chain⟩, ⟨0, .phase⟩, ⟨1, .phase⟩, ⟨2, .phase⟩, ⟨3, .phase⟩, ⟨4, .phase⟩, ⟨5, .phase⟩, ⟨6, .phase⟩, ⟨7, .phase⟩, ⟨8, .phase⟩, ⟨9, .phase⟩, ⟨10, .textOnly .lateStores⟩, ⟨11, .phase⟩, ⟨12, .phase⟩, ⟨13, .phase⟩, ⟨14, .phase⟩, ⟨15, .phase⟩, ⟨16, .phase⟩], none⟩) (v := _) rfl (by kernel_rfl) (by kernel_rfl) (by kernel_rfl) (fun _ _ _ h => h) (Or.inl ⟨by rfl, ?hy187⟩) (by assumption) ?rest187
                  case hy187 => (intro w hSw; (try dsimp only at hSw); go_simp; try with_reducible rfl)
                  try simp only [Act.put, List.setIfInBounds_toArray, List.set_cons_zero, List.set_cons_succ]
                  refine' wpAnyH_take (i := 18) (oi := ⟨some 20, .assign (.tmp 100), 3, "law.go:99", #[⟨10, .data⟩, ⟨17, .chain⟩, ⟨0, .phase⟩, ⟨1, .phase⟩, ⟨2, .phase⟩, ⟨3, .phase⟩, ⟨4, .phase⟩, ⟨5, .phase⟩, ⟨6, .phase⟩, ⟨7, .phase⟩, ⟨8, .phase⟩, ⟨9, .phase⟩, ⟨10, .phase⟩, ⟨11, .phase⟩, ⟨12, .phase⟩, ⟨13, .phase⟩, ⟨14, .phase⟩, ⟨15, .phase⟩, ⟨16, .phase⟩, ⟨17, .phase⟩], none⟩) (v := _) rfl (by kernel_rfl) (by kernel_rfl) (by kernel_rfl) (fun _ _ _ h => h) (Or.inl ⟨by rfl, ?hy188⟩) (by assumption) ?rest188
                  case hy188 => (intro w hSw; (try dsimp only at hSw); go_simp; try with_reducible rfl)
                  try simp only [Act.put, List.setIfInBounds_toArray, List.set_cons_zero, List.set_cons_succ]
                  refine wpAnyH_done (by kernel_rfl) ?_ _
                  clear hSx
                  go_wp2_with (first
                    | (with_reducible refine loadRow_walk rfl 37 (.tmp 16) rfl nb rfl (tvC R2 (.slice At2 nt2 ct2) (.slice Al2 nl2 cl2)) tv_struct (HSZ.out _ _ _) 37 hn ?_)
                    | ((with_reducible refine storeRow_walk rfl 37 (.tmp 6) (.tmp 101) rfl rb rfl (tvC R2 (.slice At2 nt2 ct2) (.slice Al2 nl2 cl2)) rfl (HSZ.out _ _ _) 37 _ hS rfl (tv_one _) ?_); intro wM rM oM zM; have LM := Lib.hid (LX.out.refer hB (hR.weak (fun y hy p => by rcases p.1 with q | q; exact .inl q.1; exact .inr q)) rM oM); have HPM := Lib.hid (hp.only oM (fun e => by have := LX.out.ref.lt; omega)); have HTM := Lib.hid (ht.only oM (fun e => by have := LX.out.ref.lt; omega)); have HQM := Lib.hid (hQ.only oM (fun y e p => by have := LX.out.ref.lt; omega)); have SM := Lib.hid (Nat.le_trans hB.size oM.size); have RXM := Lib.hid ((RX.out.below hB).only oM (fun e => by have := HEB.out; have := HXB.out; omega)); clear rM oM zM hB hS hR hQ hn hp ht))
                  refine (ofWords14_any _ _ Vw Ew (.slice A1 n1 c1) (.slice A2 n2 c2) wM LM.out.lp.wld.words LM.out.lp.wld.epochs (by have := HLN.out; omega) (by have := HLN.out; omega)).mono ?_
                  rintro e w4 ⟨p, aq, bq, rfl, rp, ha, hpp, b4q⟩
                  have hab := rp.ne
                  have RP := Lib.hid rp
                  have B4 := Lib.hid b4q
                  have HAB := Lib.hid (And.intro ha (And.intro hpp hab))
                  clear rp b4q ha hpp hab
                  unfold ptr
                  go_wp2_with fail
                  refine (traced14_any p w4).mono ?_
                  rintro e w5 ⟨t, rfl, rt, ht5, b5q⟩
                  have B5 := Lib.hid (below_on B4.out b5q)
                  have hpt := PtAt.mk (RP.out.below b5q) rt
                  have hnew : ∀ y, own14 t p aq (.slice none 0 0) (.slice none 0 0) y ∨ y = bq → wM.heap.size ≤ y := fun y hy => by
                    have := B4.out.size
                    have := HAB.out
                    rcases hy with hy | rfl
                    · rcases hy with rfl | rfl | rfl | hy | hy
                      · omega
                      · omega
                      · omega
                      · cases hy
                      · cases hy
                    · omega
                  have S5 := Lib.hid (sys17_of LM.out.lp.kis B5.out hpt hnew)
                  have KQ := Lib.hid (KPS.out w5 (wM.heap.size, t) p S5.out (LM.out.lp.below.trans (B5.out.mono LM.out.lp.below.size)))
                  clear rt ht5 b5q hpt hnew RP B4 HAB KPS
                  unfold ptr
                  go_wp2_with fail
                  refine KQ.out.mono ?_
                  rintro e w6 ⟨rfl, s6, o6⟩
                  obtain ⟨sq6, vl6, vg6, a6, bq6, k6, v6, rg6, rpt6, hd6, hu6, hw6⟩ := id s6
                  have KTC := Lib.hid (touches14_any w6 rpt6.trace (by rcases HONE.out with h | h <;> rw [h.1] <;> simp))
                  have PL6 := Lib.hid rpt6.plain
                  have S6 := Lib.hid s6
                  have O6 := Lib.hid o6
                  have HP6 := Lib.hid ((HPM.out.below B5.out).only o6 (fun h => by have := HPM.out.lt; omega))
                  have HT6 := Lib.hid ((HTM.out.below B5.out).only o6 (fun h => by have := HTM.out.lt; omega))
                  have HQ6 := Lib.hid (((HQM.out.weak (Q := fun y => wx.heap.size ≤ y ∧ y < wM.heap.size) (fun y hy p => ⟨p.1, hy⟩)).below B5.out).only o6 (fun y e q => by omega))
                  have RX6 := Lib.hid ((RXM.out.below B5.out).only o6 (fun h => by
                    rcases h with h | h
                    · exact HNX.out h.1
                    · have := RXM.out.lt; omega))
                  clear s6 o6 rg6 rpt6 hd6 hu6 hw6 KQ HPM HTM HQM
                  go_wp2_with fail
                  refine KTC.out.mono ?_
                  rintro e w7 ⟨v7, rfl, own7, b7⟩
                  have HIF := Lib.hid (fun w9 A9 c9 (b9 : Below w7.heap.size w7 w9) (o9 : w9.ownsRow w7.heap.size 3 1 (.slice A9 N c9) N (ints sV)) => (⟨_, _, _, _, _, _, _, _, _, _, _, _, HOKG.out, HSMG.out, HVL.out, HLN.out.2, HRL2.out, LM.out.port B5.out S6.out O6.out (below_on b7 b9) (by rw [HVL.out]; exact own_rebase17 o9 b7.size)⟩ : Inv17s w w9 g rb bs G0 N (.slice A9 N c9) (.slice A2 n2 c2)))
                  have KWD := Lib.hid (fun W (hb : Below w7.heap.size w7 W) => words14_any W (PL6.out.below (below_on b7 hb)))
                  rw [HVL.out] at KWD
                  have hQ7 := HQ6.out.below b7
                  have KSM := Lib.hid (fun W (v : Value) (hb : Below w7.heap.size w7 W) {Q : Nat → Prop} (hv : Lies W Q v (ints sV)) => rsame_yes Q _ v (.slice Xa za da) sV W hv (hQ7.words.below hb) (by rw [HVL.out]; omega))
                  have HP7 := Lib.hid (HP6.out.below b7)
                  have HT7 := Lib.hid (HT6.out.below b7)
                  have HR7 := Lib.hid (RX6.out.below b7)
                  clear hQ7
                  rcases HONE.out with ⟨hT0, hX0⟩ | ⟨hT1, hX1⟩
                  · rw [hT0] at own7
                    obtain ⟨A7, c7, rfl⟩ := own_open14 own7
                    subst hX0
                    have HBS20 : Hid (∀ W, Below w7.heap.size w7 W → W.cell? ⟨pb, 0, none⟩ = some (.slice Xa za da) ∧ W.cell? ⟨tb, 0, none⟩ = some (.int .i64 0) ∧ W.cell? ⟨tb, 1, none⟩ = some (.int .i64 0) ∧ W.cell? ⟨tb, 2, none⟩ = some (.int .i64 0)) := Lib.hid (fun W hb => ⟨(HP7.out.below hb).cell 0, (HT7.out.below hb).cell 0, (HT7.out.below hb).cell 1, (HT7.out.below hb).cell 2⟩)
                    clear own7 b7 hT0 LX BX RX HOK HSM HLN HRL LM HOKG HSMG HVL S6 O6 HP6 HT6 HQ6 KTC PL6 HP7 HT7 HBS14 KOF KST HRL2 SM S5 RX6 RXM HNX HXB HEB
                    as_aux_lemma =>
                     go_wp2
                     have hbQ : Below w7.heap.size w7 w7.drew := (Below.refl _ _).drew
                     have hSQ := HBS20.out _ hbQ
                     refine wp_region_held_drew (S := fun W => W.cell? ⟨pb, 0, none⟩ = some (.slice Xa za da) ∧ W.cell? ⟨tb, 0, none⟩ = some (.int .i64 0) ∧ W.cell? ⟨tb, 1, none⟩ = some (.int .i64 0) ∧ W.cell? ⟨tb, 2, none⟩ = some (.int .i64 0)) (by kernel_rfl) hSQ (fun hHeld => ?_)
                     refine' wpAnyH_take (i := 0) (oi := ⟨some 117, .move (.tmp 23), 4, "law.go:105", #[], none⟩) (v := _) rfl (by kernel_rfl) (by kernel_rfl) (by kernel_rfl) (fun _ _ _ h => h) (Or.inl ⟨by rfl, ?hy1⟩) (by assumption) ?rest1
                     case hy1 => (intro w hSw; (try dsimp only at hSw); go_simp; try with_reducible rfl)
                     try simp only [Act.put, List.setIfInBounds_toArray, List.set_cons_zero, List.set_cons_succ]
                     refine' wpAnyH_take (i := 1) (oi := ⟨some 118, .move (.tmp 19), 4, "law.go:105", #[], none⟩) (v := _) rfl (by kernel_rfl) (by kernel_rfl) (by kernel_rfl) (fun _ _ _ h => h) (Or.inl ⟨by rfl, ?hy2⟩) (by assumption) ?rest2
                     case hy2 => (intro w hSw; (try dsimp only at hSw); go_simp; try with_reducible rfl)
                     try simp only [Act.put, List.setIfInBounds_toArray, List.set_cons_zero, List.set_cons_succ]
                     refine' wpAnyH_take (i := 2) (oi := ⟨some 119, .binOp .neq 4 (.tmp 117) (.tmp 118) 4, 4, "law.go:105", #[⟨0, .data⟩, ⟨1, .data⟩], none⟩) (v := _) rfl (by kernel_rfl) (by kernel_rfl) (by kernel_rfl) (fun _ _ _ h => h) (Or.inl ⟨by rfl, ?hy3⟩) (by assumption) ?rest3
                     case hy3 => (intro w hSw; (try dsimp only at hSw); go_simp; try with_reducible rfl)
                     try simp only [Act.put, List.setIfInBounds_toArray, List.set_cons_zero, List.set_cons_succ]
                     refine' wpAnyH_take (i := 3) (oi := ⟨some 120, .move (.tmp 119), 4, "law.go:105", #[⟨2, .data⟩], none⟩) (v := _) rfl (by kernel_rfl) (by kernel_rfl) (by kernel_rfl) (fun _ _ _ h => h) (Or.inl ⟨by rfl, ?hy4⟩) (by assumption) ?rest4
                     case hy4 => (intro w hSw; (try dsimp only at hSw); go_simp; try with_reducible rfl)
                     try simp only [Act.put, List.setIfInBounds_toArray, List.set_cons_zero, List.set_cons_succ]
                     refine' wpAnyH_take (i := 4) (oi := ⟨some 121, .move (.tmp 24), 44, "law.go:105", #[⟨3, .guard⟩], some (3, false)⟩) (v := _) rfl (by kernel_rfl) (by kernel_rfl) (by kernel_rfl) (fun _ _ _ h => h) (Or.inl ⟨by rfl, ?hy5⟩) (by assumption) ?rest5
                     case hy5 => (intro w hSw; (try dsimp only at hSw); go_simp; try with_reducible rfl)
                     try simp only [Act.put, List.setIfInBounds_toArray, List.set_cons_zero, List.set_cons_succ]
                     refine' wpAnyH_take (i := 5) (oi := ⟨some 122, .move (.tmp 20), 3, "law.go:105", #[⟨3, .guard⟩], some (3, false)⟩) (v := _) rfl (by kernel_rfl) (by kernel_rfl) (by kernel_rfl) (fun _ _ _ h => h) (Or.inl ⟨by rfl, ?hy6⟩) (by assumption) ?rest6
                     case hy6 => (intro w hSw; (try dsimp only at hSw); go_simp; try with_reducible rfl)
                     try simp only [Act.put, List.setIfInBounds_toArray, List.set_cons_zero, List.set_cons_succ]
                     refine' wpAnyH_take (i := 6) (oi := ⟨some 123, .binOp .neq 3 (.tmp 121) (.tmp 122) 3, 4, "law.go:105", #[⟨4, .data⟩, ⟨5, .data⟩, ⟨3, .guard⟩], some (3, false)⟩) (v := _) rfl (by kernel_rfl) (by kernel_rfl) (by kernel_rfl) (fun _ _ _ h => h) (Or.inl ⟨by rfl, ?hy7⟩) (by assumption) ?rest7
                     case hy7 => (intro w hSw; (try dsimp only at hSw); go_simp; try with_reducible rfl)
                     try simp only [Act.put, List.setIfInBounds_toArray, List.set_cons_zero, List.set_cons_succ]
                     refine' wpAnyH_take (i := 7) (oi := ⟨some 124, .pick (.tmp 120) (.const (.bool true)) (.tmp 123), 4, "law.go:105", #[⟨3, .data⟩, ⟨6, .data⟩], none⟩) (v := _) rfl (by kernel_rfl) (by kernel_rfl) (by kernel_rfl) (fun _ _ _ h => h) (Or.inl ⟨by rfl, ?hy8⟩) (by assumption) ?rest8
                     case hy8 => (intro w hSw; (try dsimp only at hSw); go_simp; try with_reducible rfl)
                     try simp only [Act.put, List.setIfInBounds_toArray, List.set_cons_zero, List.set_cons_succ]
                     refine' wpAnyH_take (i := 8) (oi := ⟨some 125, .move (.tmp 124), 4, "law.go:105", #[⟨7, .data⟩, ⟨3, .chain⟩], none⟩) (v := _) rfl (by kernel_rfl) (by kernel_rfl) (by kernel_rfl) (fun _ _ _ h => h) (Or.inl ⟨by rfl, ?hy9⟩) (by assumption) ?rest9
                     case hy9 => (intro w hSw; (try dsimp only at hSw); go_simp; try with_reducible rfl)
                     try simp only [Act.put, List.setIfInBounds_toArray, List.set_cons_zero, List.set_cons_succ]
                     refine' wpAnyH_take (i := 9) (oi := ⟨some 126, .move (.tmp 21), 57, "law.go:105", #[⟨8, .guard⟩], some (8, false)⟩) (v := _) rfl (by kernel_rfl) (by kernel_rfl) (by kernel_rfl) (fun _ _ _ h => h) (Or.inl ⟨by rfl, ?hy10⟩) (by assumption) ?rest10
                     case hy10 => (intro w hSw; (try dsimp only at hSw); go_simp; try with_reducible rfl)
                     try simp only [Act.put, List.setIfInBounds_toArray, List.set_cons_zero, List.set_cons_succ]
                     refine' wpAnyH_take (i := 11) (oi := ⟨some 128, .fieldAddr 51 (.tmp 17) 0, 0, "law.go:105", #[⟨8, .guard⟩], some (8, false)⟩) (v := _) rfl (by kernel_rfl) (by kernel_rfl) (by kernel_rfl) (fun _ _ _ h => h) (Or.inl ⟨by rfl, ?hy12⟩) (by assumption) ?rest12
                     case hy12 => (intro w hSw; (try dsimp only at hSw); go_simp; try with_reducible rfl)
                     try simp only [Act.put, List.setIfInBounds_toArray, List.set_cons_zero, List.set_cons_succ]
                     refine' wpAnyH_take (i := 12) (oi := ⟨some 129, .load 35 (.tmp 128), 35, "law.go:105", #[⟨11, .data⟩, ⟨8, .guard⟩], some (8, false)⟩) (v := _) rfl (by kernel_rfl) (by kernel_rfl) (by kernel_rfl) (fun _ _ _ h => h) (Or.inl ⟨by rfl, ?hy14⟩) (by assumption) ?rest14
                     case hy14 => (intro w hSw; (try dsimp only at hSw); go_simp; try with_reducible rfl)
                     try simp only [Act.put, List.setIfInBounds_toArray, List.set_cons_zero, List.set_cons_succ]
                     refine wpAnyH_ready (rs := [10]) (by kernel_rfl) (by simp) ?_
                     refine AllReadyH.cons (o := ⟨some 127, .call { callee := .value (.func 24), args := #[.tmp 126], argTypes := #[57] }, 35, "law.go:105", #[⟨9, .data⟩, ⟨8, .chain⟩, ⟨8, .guard⟩], some (8, false)⟩) rfl (fun K hK => ?_) AllReadyH.nil
                     go_simp
                     go_at_call 24
                     refine (KWD.out _ hbQ).mono ?_
                     rintro e wA ⟨vA, rfl, oA, bA⟩
                     obtain ⟨AA, cA, rfl⟩ := own_open14 oA
                     have hbN := below_on hbQ bA
                     clear hbQ
                     have hbQ := hbN
                     clear hbN
                     have hSQ := HBS20.out _ hbQ
                     go_wp2_with fail
                     refine hK.out _ _ hSQ (fun hSx => ?_)
                     clear hK K
                     try simp only [Act.put, List.setIfInBounds_toArray, List.set_cons_zero, List.set_cons_succ]
                     refine wpAnyH_ready (rs := [13]) (by kernel_rfl) (by simp) ?_
                     refine AllReadyH.cons (o := ⟨some 130, .call { callee := .value (.func 23), args := #[.tmp 127, .tmp 129], argTypes := #[35, 35] }, 4, "law.go:105", #[⟨10, .data⟩, ⟨12, .data⟩, ⟨10, .chain⟩, ⟨8, .guard⟩], some (8, false)⟩) rfl (fun K hK => ?_) AllReadyH.nil
                     go_simp
                     go_at_call 23
                     refine (KSM.out _ _ hbQ (Lies.of_own oA)).mono ?_
                     rintro e wC ⟨rfl, bC⟩
                     have hbN := below_on hbQ bC
                     clear hbQ
                     have hbQ := hbN
                     clear hbN
                     have hSQ := HBS20.out _ hbQ
                     go_wp2_with fail
                     refine hK.out _ _ hSQ (fun hSx => ?_)
                     clear hK K
                     try simp only [Act.put, List.setIfInBounds_toArray, List.set_cons_zero, List.set_cons_succ]
                     refine' wpAnyH_take (i := 14) (oi := ⟨some 131, .unOp .not 4 (.tmp 130), 4, "law.go:105", #[⟨13, .data⟩, ⟨8, .guard⟩], some (8, false)⟩) (v := _) rfl (by kernel_rfl) (by kernel_rfl) (by kernel_rfl) (fun _ _ _ h => h) (Or.inl ⟨by rfl, ?hy17⟩) (by assumption) ?rest17
                     case hy17 => (intro w hSw; (try dsimp only at hSw); go_simp; try with_reducible rfl)
                     try simp only [Act.put, List.setIfInBounds_toArray, List.set_cons_zero, List.set_cons_succ]
                     refine' wpAnyH_take (i := 15) (oi := ⟨some 132, .pick (.tmp 125) (.const (.bool true)) (.tmp 131), 4, "law.go:105", #[⟨8, .data⟩, ⟨14, .data⟩], none⟩) (v := _) rfl (by kernel_rfl) (by kernel_rfl) (by kernel_rfl) (fun _ _ _ h => h) (Or.inl ⟨by rfl, ?hy18⟩) (by assumption) ?rest18
                     case hy18 => (intro w hSw; (try dsimp only at hSw); go_simp; try with_reducible rfl)
                     try simp only [Act.put, List.setIfInBounds_toArray, List.set_cons_zero, List.set_cons_succ]
                     refine' wpAnyH_take (i := 16) (oi := ⟨some 133, .move (.tmp 132), 4, "law.go:105", #[⟨15, .data⟩, ⟨13, .chain⟩], none⟩) (v := _) rfl (by kernel_rfl) (by kernel_rfl) (by kernel_rfl) (fun _ _ _ h => h) (Or.inl ⟨by rfl, ?hy19⟩) (by assumption) ?rest19
                     case hy19 => (intro w hSw; (try dsimp only at hSw); go_simp; try with_reducible rfl)
                     try simp only [Act.put, List.setIfInBounds_toArray, List.set_cons_zero, List.set_cons_succ]
                     refine' wpAnyH_take (i := 17) (oi := ⟨some 134, .move (.tmp 25), 63, "law.go:105", #[⟨16, .guard⟩], some (16, false)⟩) (v := _) rfl (by kernel_rfl) (by kernel_rfl) (by kernel_rfl) (fun _ _ _ h => h) (Or.inl ⟨by rfl, ?hy20⟩) (by assumption) ?rest20
                     case hy20 => (intro w hSw; (try dsimp only at hSw); go_simp; try with_reducible rfl)
                     try simp only [Act.put, List.setIfInBounds_toArray, List.set_cons_zero, List.set_cons_succ]
                     refine' wpAnyH_take (i := 18) (oi := ⟨some 135, .call { callee := .builtin .len, args := #[.tmp 134], argTypes := #[63] }, 3, "law.go:105", #[⟨17, .data⟩, ⟨16, .guard⟩], some (16, false)⟩) (v := _) rfl (by kernel_rfl) (by kernel_rfl) (by kernel_rfl) (fun _ _ _ h => h) (Or.inl ⟨by rfl, ?hy21⟩) (by assumption) ?rest21
                     case hy21 => (intro w hSw; (try dsimp only at hSw); go_simp; try with_reducible rfl)
                     try simp only [Act.put, List.setIfInBounds_toArray, List.set_cons_zero, List.set_cons_succ]
                     refine' wpAnyH_take (i := 19) (oi := ⟨some 136, .binOp .gtr 3 (.tmp 135) (.const (.int .i64 1)) 3, 4, "law.go:105", #[⟨18, .data⟩, ⟨16, .guard⟩], some (16, false)⟩) (v := _) rfl (by kernel_rfl) (by kernel_rfl) (by kernel_rfl) (fun _ _ _ h => h) (Or.inl ⟨by rfl, ?hy22⟩) (by assumption) ?rest22
                     case hy22 => (intro w hSw; (try dsimp only at hSw); go_simp; try with_reducible rfl)
                     try simp only [Act.put, List.setIfInBounds_toArray, List.set_cons_zero, List.set_cons_succ]
                     refine' wpAnyH_take (i := 20) (oi := ⟨some 137, .pick (.tmp 133) (.const (.bool true)) (.tmp 136), 4, "law.go:105", #[⟨16, .data⟩, ⟨19, .data⟩], none⟩) (v := _) rfl (by kernel_rfl) (by kernel_rfl) (by kernel_rfl) (fun _ _ _ h => h) (Or.inl ⟨by rfl, ?hy23⟩) (by assumption) ?rest23
                     case hy23 => (intro w hSw; (try dsimp only at hSw); go_simp; try with_reducible rfl)
                     try simp only [Act.put, List.setIfInBounds_toArray, List.set_cons_zero, List.set_cons_succ]
                     refine' wpAnyH_take (i := 21) (oi := ⟨some 138, .move (.tmp 137), 4, "law.go:105", #[⟨20, .data⟩, ⟨16, .chain⟩], none⟩) (v := _) rfl (by kernel_rfl) (by kernel_rfl) (by kernel_rfl) (fun _ _ _ h => h) (Or.inl ⟨by rfl, ?hy24⟩) (by assumption) ?rest24
                     case hy24 => (intro w hSw; (try dsimp only at hSw); go_simp; try with_reducible rfl)
                     try simp only [Act.put, List.setIfInBounds_toArray, List.set_cons_zero, List.set_cons_succ]
                     refine' wpAnyH_take (i := 22) (oi := ⟨some 139, .fieldAddr 53 (.tmp 18) 0, 0, "law.go:105", #[⟨21, .guard⟩], some (21, false)⟩) (v := _) rfl (by kernel_rfl) (by kernel_rfl) (by kernel_rfl) (fun _ _ _ h => h) (Or.inl ⟨by rfl, ?hy25⟩) (by assumption) ?rest25
                     case hy25 => (intro w hSw; (try dsimp only at hSw); go_simp; try with_reducible rfl)
                     try simp only [Act.put, List.setIfInBounds_toArray, List.set_cons_zero, List.set_cons_succ]
                     refine' wpAnyH_take (i := 23) (oi := ⟨some 140, .load 3 (.tmp 139), 3, "law.go:105", #[⟨22, .data⟩, ⟨21, .guard⟩], some (21, false)⟩) (v := _) rfl (by kernel_rfl) (by kernel_rfl) (by kernel_rfl) (fun _ _ _ h => h) (Or.inl ⟨by rfl, ?hy26⟩) (by assumption) ?rest26
                     case hy26 => (intro w hSw; (try dsimp only at hSw); go_simp; try with_reducible rfl)
                     try simp only [Act.put, List.setIfInBounds_toArray, List.set_cons_zero, List.set_cons_succ]
                     refine' wpAnyH_take (i := 24) (oi := ⟨some 141, .binOp .neq 3 (.tmp 140) (.const (.int .i64 0)) 3, 4, "law.go:105", #[⟨23, .data⟩, ⟨21, .guard⟩], some (21, false)⟩) (v := _) rfl (by kernel_rfl) (by kernel_rfl) (by kernel_rfl) (fun _ _ _ h => h) (Or.inl ⟨by rfl, ?hy27⟩) (by assumption) ?rest27
                     case hy27 => (intro w hSw; (try dsimp only at hSw); go_simp; try with_reducible rfl)
                     try simp only [Act.put, List.setIfInBounds_toArray, List.set_cons_zero, List.set_cons_succ]
                     refine' wpAnyH_take (i := 25) (oi := ⟨some 142, .move (.tmp 25), 63, "law.go:105", #[⟨21, .guard⟩], some (21, false)⟩) (v := _) rfl (by kernel_rfl) (by kernel_rfl) (by kernel_rfl) (fun _ _ _ h => h) (Or.inl ⟨by rfl, ?hy28⟩) (by assumption) ?rest28
                     case hy28 => (intro w hSw; (try dsimp only at hSw); go_simp; try with_reducible rfl)
                     try simp only [Act.put, List.setIfInBounds_toArray, List.set_cons_zero, List.set_cons_succ]
                     refine' wpAnyH_take (i := 26) (oi := ⟨some 143, .call { callee := .builtin .len, args := #[.tmp 142], argTypes := #[63] }, 3, "law.go:105", #[⟨25, .data⟩, ⟨21, .guard⟩], some (21, false)⟩) (v := _) rfl (by kernel_rfl) (by kernel_rfl) (by kernel_rfl) (fun _ _ _ h => h) (Or.inl ⟨by rfl, ?hy29⟩) (by assumption) ?rest29
                     case hy29 => (intro w hSw; (try dsimp only at hSw); go_simp; try with_reducible rfl)
                     try simp only [Act.put, List.setIfInBounds_toArray, List.set_cons_zero, List.set_cons_succ]
                     refine' wpAnyH_take (i := 27) (oi := ⟨some 144, .binOp .eql 3 (.tmp 143) (.const (.int .i64 1)) 3, 4, "law.go:105", #[⟨26, .data⟩, ⟨21, .guard⟩], some (21, false)⟩) (v := _) rfl (by kernel_rfl) (by kernel_rfl) (by kernel_rfl) (fun _ _ _ h => h) (Or.inl ⟨by rfl, ?hy30⟩) (by assumption) ?rest30
                     case hy30 => (intro w hSw; (try dsimp only at hSw); go_simp; try with_reducible rfl)
                     try simp only [Act.put, List.setIfInBounds_toArray, List.set_cons_zero, List.set_cons_succ]
                     refine' wpAnyH_take (i := 28) (oi := ⟨some 145, .binOp .neq 4 (.tmp 141) (.tmp 144) 4, 4, "law.go:105", #[⟨24, .data⟩, ⟨27, .data⟩, ⟨21, .guard⟩], some (21, false)⟩) (v := _) rfl (by kernel_rfl) (by kernel_rfl) (by kernel_rfl) (fun _ _ _ h => h) (Or.inl ⟨by rfl, ?hy31⟩) (by assumption) ?rest31
                     case hy31 => (intro w hSw; (try dsimp only at hSw); go_simp; try with_reducible rfl)
                     try simp only [Act.put, List.setIfInBounds_toArray, List.set_cons_zero, List.set_cons_succ]
                     refine' wpAnyH_take (i := 29) (oi := ⟨some 146, .pick (.tmp 138) (.const (.bool true)) (.tmp 145), 4, "law.go:105", #[⟨21, .data⟩, ⟨28, .data⟩], none⟩) (v := _) rfl (by kernel_rfl) (by kernel_rfl) (by kernel_rfl) (fun _ _ _ h => h) (Or.inl ⟨by rfl, ?hy32⟩) (by assumption) ?rest32
                     case hy32 => (intro w hSw; (try dsimp only at hSw); go_simp; try with_reducible rfl)
                     try simp only [Act.put, List.setIfInBounds_toArray, List.set_cons_zero, List.set_cons_succ]
                     refine' wpAnyH_take (i := 30) (oi := ⟨some 147, .move (.tmp 146), 4, "law.go:105", #[⟨29, .data⟩, ⟨21, .chain⟩], none⟩) (v := _) rfl (by kernel_rfl) (by kernel_rfl) (by kernel_rfl) (fun _ _ _ h => h) (Or.inl ⟨by rfl, ?hy33⟩) (by assumption) ?rest33
                     case hy33 => (intro w hSw; (try dsimp only at hSw); go_simp; try with_reducible rfl)
                     try simp only [Act.put, List.setIfInBounds_toArray, List.set_cons_zero, List.set_cons_succ]
                     refine' wpAnyH_take (i := 31) (oi := ⟨some 148, .move (.tmp 25), 63, "law.go:105", #[⟨30, .guard⟩], some (30, false)⟩) (v := _) rfl (by kernel_rfl) (by kernel_rfl) (by kernel_rfl) (fun _ _ _ h => h) (Or.inl ⟨by rfl, ?hy34⟩) (by assumption) ?rest34
                     case hy34 => (intro w hSw; (try dsimp only at hSw); go_simp; try with_reducible rfl)
                     try simp only [Act.put, List.setIfInBounds_toArray, List.set_cons_zero, List.set_cons_succ]
                     refine' wpAnyH_take (i := 32) (oi := ⟨some 149, .call { callee := .builtin .len, args := #[.tmp 148], argTypes := #[63] }, 3, "law.go:105", #[⟨31, .data⟩, ⟨30, .guard⟩], some (30, false)⟩) (v := _) rfl (by kernel_rfl) (by kernel_rfl) (by kernel_rfl) (fun _ _ _ h => h) (Or.inl ⟨by rfl, ?hy35⟩) (by assumption) ?rest35
                     case hy35 => (intro w hSw; (try dsimp only at hSw); go_simp; try with_reducible rfl)
                     try simp only [Act.put, List.setIfInBounds_toArray, List.set_cons_zero, List.set_cons_succ]
                     refine' wpAnyH_take (i := 33) (oi := ⟨some 150, .binOp .eql 3 (.tmp 149) (.const (.int .i64 1)) 3, 4, "law.go:105", #[⟨32, .data⟩, ⟨30, .guard⟩], some (30, false)⟩) (v := _) rfl (by kernel_rfl) (by kernel_rfl) (by kernel_rfl) (fun _ _ _ h => h) (Or.inl ⟨by rfl, ?hy36⟩) (by assumption) ?rest36
                     case hy36 => (intro w hSw; (try dsimp only at hSw); go_simp; try with_reducible rfl)
                     try simp only [Act.put, List.setIfInBounds_toArray, List.set_cons_zero, List.set_cons_succ]
                     refine' wpAnyH_take (i := 34) (oi := ⟨some 151, .move (.tmp 150), 4, "law.go:105", #[⟨33, .data⟩, ⟨30, .chain⟩, ⟨30, .guard⟩], some (30, false)⟩) (v := _) rfl (by kernel_rfl) (by kernel_rfl) (by kernel_rfl) (fun _ _ _ h => h) (Or.inl ⟨by rfl, ?hy37⟩) (by assumption) ?rest37
                     case hy37 => (intro w hSw; (try dsimp only at hSw); go_simp; try with_reducible rfl)
                     try simp only [Act.put, List.setIfInBounds_toArray, List.set_cons_zero, List.set_cons_succ]
                     refine' wpAnyH_take (i := 35) (oi := ⟨some 152, .move (.tmp 25), 63, "law.go:105", #[⟨34, .guard⟩], some (34, true)⟩) (v := undef) rfl (by kernel_rfl) (by kernel_rfl) (by kernel_rfl) (fun _ _ _ h => h) (Or.inr ⟨by rfl, rfl⟩) (by assumption) ?rest38
                     try simp only [Act.put, List.setIfInBounds_toArray, List.set_cons_zero, List.set_cons_succ]
                     refine' wpAnyH_take (i := 36) (oi := ⟨some 153, .indexAddr 63 (.tmp 152) (.const (.int .i64 0)), 0, "law.go:105", #[⟨35, .data⟩, ⟨34, .guard⟩], some (34, true)⟩) (v := undef) rfl (by kernel_rfl) (by kernel_rfl) (by kernel_rfl) (fun _ _ _ h => h) (Or.inr ⟨by rfl, rfl⟩) (by assumption) ?rest39
                     try simp only [Act.put, List.setIfInBounds_toArray, List.set_cons_zero, List.set_cons_succ]
                     refine' wpAnyH_take (i := 37) (oi := ⟨some 154, .load 67 (.tmp 153), 67, "law.go:105", #[⟨36, .data⟩, ⟨34, .guard⟩], some (34, true)⟩) (v := undef) rfl (by kernel_rfl) (by kernel_rfl) (by kernel_rfl) (fun _ _ _ h => h) (Or.inr ⟨by rfl, rfl⟩) (by assumption) ?rest40
                     try simp only [Act.put, List.setIfInBounds_toArray, List.set_cons_zero, List.set_cons_succ]
                     refine' wpAnyH_take (i := 38) (oi := ⟨some 155, .load 53 (.tmp 18), 53, "law.go:105", #[⟨34, .guard⟩], some (34, true)⟩) (v := undef) rfl (by kernel_rfl) (by kernel_rfl) (by kernel_rfl) (fun _ _ _ h => h) (Or.inr ⟨by rfl, rfl⟩) (by assumption) ?rest41
                     try simp only [Act.put, List.setIfInBounds_toArray, List.set_cons_zero, List.set_cons_succ]
                     refine' wpAnyH_take (i := 39) (oi := ⟨some 156, .binOp .neq 53 (.tmp 154) (.tmp 155) 53, 4, "law.go:105", #[⟨37, .data⟩, ⟨38, .data⟩, ⟨34, .guard⟩], some (34, true)⟩) (v := undef) rfl (by kernel_rfl) (by kernel_rfl) (by kernel_rfl) (fun _ _ _ h => h) (Or.inr ⟨by rfl, rfl⟩) (by assumption) ?rest42
                     try simp only [Act.put, List.setIfInBounds_toArray, List.set_cons_zero, List.set_cons_succ]
                     refine' wpAnyH_take (i := 40) (oi := ⟨some 157, .pick (.tmp 151) (.tmp 156) (.const (.bool false)), 4, "law.go:105", #[⟨34, .data⟩, ⟨39, .data⟩, ⟨30, .guard⟩], some (30, false)⟩) (v := _) rfl (by kernel_rfl) (by kernel_rfl) (by kernel_rfl) (fun _ _ _ h => h) (Or.inl ⟨by rfl, ?hy43⟩) (by assumption) ?rest43
                     case hy43 => (intro w hSw; (try dsimp only at hSw); go_simp; try with_reducible rfl)
                     try simp only [Act.put, List.setIfInBounds_toArray, List.set_cons_zero, List.set_cons_succ]
                     refine' wpAnyH_take (i := 41) (oi := ⟨some 158, .pick (.tmp 147) (.const (.bool true)) (.tmp 157), 4, "law.go:105", #[⟨30, .data⟩, ⟨40, .data⟩], none⟩) (v := _) rfl (by kernel_rfl) (by kernel_rfl) (by kernel_rfl) (fun _ _ _ h => h) (Or.inl ⟨by rfl, ?hy44⟩) (by assumption) ?rest44
                     case hy44 => (intro w hSw; (try dsimp only at hSw); go_simp; try with_reducible rfl)
                     try simp only [Act.put, List.setIfInBounds_toArray, List.set_cons_zero, List.set_cons_succ]
                     refine wpAnyH_done (by kernel_rfl) ?_ _
                     have BQ := Lib.hid hbQ
                     clear hbQ hSQ
                     go_wp2_with fail
                     refine (KWD.out _ BQ.out).mono ?_
                     rintro e w9 ⟨v9, rfl, own9, b9⟩
                     obtain ⟨A9, c9, rfl⟩ := own_open14 own9
                     have HIE : Hid (Inv17s w w9 g rb bs G0 N (.slice A9 N c9) (.slice A2 n2 c2)) := Lib.hid (HIF.out w9 A9 c9 (below_on BQ.out b9) (own_rebase17 own9 BQ.out.size))
                     have HRE := Lib.hid (HR7.out.below (below_on BQ.out b9))
                     clear own9 b9
                     go_wp2
                     go_meet
                     case rel => exact ⟨rfl, ⟨_, _, _, _, _, _, rfl, rfl, HIE⟩, HRE⟩
                  · rw [hT1] at own7
                    obtain ⟨gT, cT, rfl, hgT, hgl7⟩ := own7.form (by simp)
                    have t0 := (own7.cellAt 0 (by exact (by decide : 0 < 3))).trans rfl
                    have t1 := (own7.cellAt 1 (by exact (by decide : 1 < 3))).trans rfl
                    have t2 := (own7.cellAt 2 (by exact (by decide : 2 < 3))).trans rfl
                    obtain ⟨κ, ii, uu⟩ := xX
                    have hκ : (κ != 0) = true := by simpa using hX1
                    have hneq := neq_t14 κ ii uu
                    have HBS20 : Hid (∀ W, Below w7.heap.size w7 W → W.cell? ⟨pb, 0, none⟩ = some (.slice Xa za da) ∧ W.cell? ⟨tb, 0, none⟩ = some (.int .i64 κ) ∧ W.cell? ⟨tb, 1, none⟩ = some (.int .i64 ii) ∧ W.cell? ⟨tb, 2, none⟩ = some (.int .i64 uu) ∧ W.cell? ⟨gT, 0, none⟩ = some (.int .i64 κ) ∧ W.cell? ⟨gT, 1, none⟩ = some (.int .i64 ii) ∧ W.cell? ⟨gT, 2, none⟩ = some (.int .i64 uu)) := Lib.hid (fun W hb => ⟨(HP7.out.below hb).cell 0, (HT7.out.below hb).cell 0, (HT7.out.below hb).cell 1, (HT7.out.below hb).cell 2, (hb.cell (p := ⟨gT, 0, none⟩) hgl7).trans t0, (hb.cell (p := ⟨gT, 1, none⟩) hgl7).trans t1, (hb.cell (p := ⟨gT, 2, none⟩) hgl7).trans t2⟩)
                    clear own7 b7 hT1 hX1 t0 t1 t2 LX BX RX HOK HSM HLN HRL LM HOKG HSMG HVL S6 O6 HP6 HT6 HQ6 KTC PL6 HP7 HT7 HBS14 KOF KST HRL2 SM S5 RX6 RXM HNX HXB HEB
                    as_aux_lemma =>
                     go_wp2
                     have hbQ : Below w7.heap.size w7 w7.drew := (Below.refl _ _).drew
                     have hSQ := HBS20.out _ hbQ
                     refine wp_region_held_drew (S := fun W => W.cell? ⟨pb, 0, none⟩ = some (.slice Xa za da) ∧ W.cell? ⟨tb, 0, none⟩ = some (.int .i64 κ) ∧ W.cell? ⟨tb, 1, none⟩ = some (.int .i64 ii) ∧ W.cell? ⟨tb, 2, none⟩ = some (.int .i64 uu) ∧ W.cell? ⟨gT, 0, none⟩ = some (.int .i64 κ) ∧ W.cell? ⟨gT, 1, none⟩ = some (.int .i64 ii) ∧ W.cell? ⟨gT, 2, none⟩ = some (.int .i64 uu)) (by kernel_rfl) hSQ (fun hHeld => ?_)
                     refine' wpAnyH_take (i := 0) (oi := ⟨some 117, .move (.tmp 23), 4, "law.go:105", #[], none⟩) (v := _) rfl (by kernel_rfl) (by kernel_rfl) (by kernel_rfl) (fun _ _ _ h => h) (Or.inl ⟨by rfl, ?hy45⟩) (by assumption) ?rest45
                     case hy45 => (intro w hSw; (try dsimp only at hSw); go_simp; try with_reducible rfl)
                     try simp only [Act.put, List.setIfInBounds_toArray, List.set_cons_zero, List.set_cons_succ]
                     refine' wpAnyH_take (i := 1) (oi := ⟨some 118, .move (.tmp 19), 4, "law.go:105", #[], none⟩) (v := _) rfl (by kernel_rfl) (by kernel_rfl) (by kernel_rfl) (fun _ _ _ h => h) (Or.inl ⟨by rfl, ?hy46⟩) (by assumption) ?rest46
                     case hy46 => (intro w hSw; (try dsimp only at hSw); go_simp; try with_reducible rfl)
                     try simp only [Act.put, List.setIfInBounds_toArray, List.set_cons_zero, List.set_cons_succ]
                     refine' wpAnyH_take (i := 2) (oi := ⟨some 119, .binOp .neq 4 (.tmp 117) (.tmp 118) 4, 4, "law.go:105", #[⟨0, .data⟩, ⟨1, .data⟩], none⟩) (v := _) rfl (by kernel_rfl) (by kernel_rfl) (by kernel_rfl) (fun _ _ _ h => h) (Or.inl ⟨by rfl, ?hy47⟩) (by assumption) ?rest47
                     case hy47 => (intro w hSw; (try dsimp only at hSw); go_simp; try with_reducible rfl)
                     try simp only [Act.put, List.setIfInBounds_toArray, List.set_cons_zero, List.set_cons_succ]
                     refine' wpAnyH_take (i := 3) (oi := ⟨some 120, .move (.tmp 119), 4, "law.go:105", #[⟨2, .data⟩], none⟩) (v := _) rfl (by kernel_rfl) (by kernel_rfl) (by kernel_rfl) (fun _ _ _ h => h) (Or.inl ⟨by rfl, ?hy48⟩) (by assumption) ?rest48
                     case hy48 => (intro w hSw; (try dsimp only at hSw); go_simp; try with_reducible rfl)
                     try simp only [Act.put, List.setIfInBounds_toArray, List.set_cons_zero, List.set_cons_succ]
                     refine' wpAnyH_take (i := 4) (oi := ⟨some 121, .move (.tmp 24), 44, "law.go:105", #[⟨3, .guard⟩], some (3, false)⟩) (v := _) rfl (by kernel_rfl) (by kernel_rfl) (by kernel_rfl) (fun _ _ _ h => h) (Or.inl ⟨by rfl, ?hy49⟩) (by assumption) ?rest49
                     case hy49 => (intro w hSw; (try dsimp only at hSw); go_simp; try with_reducible rfl)
                     try simp only [Act.put, List.setIfInBounds_toArray, List.set_cons_zero, List.set_cons_succ]
                     refine' wpAnyH_take (i := 5) (oi := ⟨some 122, .move (.tmp 20), 3, "law.go:105", #[⟨3, .guard⟩], some (3, false)⟩) (v := _) rfl (by kernel_rfl) (by kernel_rfl) (by kernel_rfl) (fun _ _ _ h => h) (Or.inl ⟨by rfl, ?hy50⟩) (by assumption) ?rest50
                     case hy50 => (intro w hSw; (try dsimp only at hSw); go_simp; try with_reducible rfl)
                     try simp only [Act.put, List.setIfInBounds_toArray, List.set_cons_zero, List.set_cons_succ]
                     refine' wpAnyH_take (i := 6) (oi := ⟨some 123, .binOp .neq 3 (.tmp 121) (.tmp 122) 3, 4, "law.go:105", #[⟨4, .data⟩, ⟨5, .data⟩, ⟨3, .guard⟩], some (3, false)⟩) (v := _) rfl (by kernel_rfl) (by kernel_rfl) (by kernel_rfl) (fun _ _ _ h => h) (Or.inl ⟨by rfl, ?hy51⟩) (by assumption) ?rest51
                     case hy51 => (intro w hSw; (try dsimp only at hSw); go_simp; try with_reducible rfl)
                     try simp only [Act.put, List.setIfInBounds_toArray, List.set_cons_zero, List.set_cons_succ]
                     refine' wpAnyH_take (i := 7) (oi := ⟨some 124, .pick (.tmp 120) (.const (.bool true)) (.tmp 123), 4, "law.go:105", #[⟨3, .data⟩, ⟨6, .data⟩], none⟩) (v := _) rfl (by kernel_rfl) (by kernel_rfl) (by kernel_rfl) (fun _ _ _ h => h) (Or.inl ⟨by rfl, ?hy52⟩) (by assumption) ?rest52
                     case hy52 => (intro w hSw; (try dsimp only at hSw); go_simp; try with_reducible rfl)
                     try simp only [Act.put, List.setIfInBounds_toArray, List.set_cons_zero, List.set_cons_succ]
                     refine' wpAnyH_take (i := 8) (oi := ⟨some 125, .move (.tmp 124), 4, "law.go:105", #[⟨7, .data⟩, ⟨3, .chain⟩], none⟩) (v := _) rfl (by kernel_rfl) (by kernel_rfl) (by kernel_rfl) (fun _ _ _ h => h) (Or.inl ⟨by rfl, ?hy53⟩) (by assumption) ?rest53
                     case hy53 => (intro w hSw; (try dsimp only at hSw); go_simp; try with_reducible rfl)
                     try simp only [Act.put, List.setIfInBounds_toArray, List.set_cons_zero, List.set_cons_succ]
                     refine' wpAnyH_take (i := 9) (oi := ⟨some 126, .move (.tmp 21), 57, "law.go:105", #[⟨8, .guard⟩], some (8, false)⟩) (v := _) rfl (by kernel_rfl) (by kernel_rfl) (by kernel_rfl) (fun _ _ _ h => h) (Or.inl ⟨by rfl, ?hy54⟩) (by assumption) ?rest54
                     case hy54 => (intro w hSw; (try dsimp only at hSw); go_simp; try with_reducible rfl)
                     try simp only [Act.put, List.setIfInBounds_toArray, List.set_cons_zero, List.set_cons_succ]
                     refine' wpAnyH_take (i := 11) (oi := ⟨some 128, .fieldAddr 51 (.tmp 17) 0, 0, "law.go:105", #[⟨8, .guard⟩], some (8, false)⟩) (v := _) rfl (by kernel_rfl) (by kernel_rfl) (by kernel_rfl) (fun _ _ _ h => h) (Or.inl ⟨by rfl, ?hy56⟩) (by assumption) ?rest56
                     case hy56 => (intro w hSw; (try dsimp only at hSw); go_simp; try with_reducible rfl)
                     try simp only [Act.put, List.setIfInBounds_toArray, List.set_cons_zero, List.set_cons_succ]
                     refine' wpAnyH_take (i := 12) (oi := ⟨some 129, .load 35 (.tmp 128), 35, "law.go:105", #[⟨11, .data⟩, ⟨8, .guard⟩], some (8, false)⟩) (v := _) rfl (by kernel_rfl) (by kernel_rfl) (by kernel_rfl) (fun _ _ _ h => h) (Or.inl ⟨by rfl, ?hy58⟩) (by assumption) ?rest58
                     case hy58 => (intro w hSw; (try dsimp only at hSw); go_simp; try with_reducible rfl)
                     try simp only [Act.put, List.setIfInBounds_toArray, List.set_cons_zero, List.set_cons_succ]
                     refine wpAnyH_ready (rs := [10]) (by kernel_rfl) (by simp) ?_
                     refine AllReadyH.cons (o := ⟨some 127, .call { callee := .value (.func 24), args := #[.tmp 126], argTypes := #[57] }, 35, "law.go:105", #[⟨9, .data⟩, ⟨8, .chain⟩, ⟨8, .guard⟩], some (8, false)⟩) rfl (fun K hK => ?_) AllReadyH.nil
                     go_simp
                     go_at_call 24
                     refine (KWD.out _ hbQ).mono ?_
                     rintro e wA ⟨vA, rfl, oA, bA⟩
                     obtain ⟨AA, cA, rfl⟩ := own_open14 oA
                     have hbN := below_on hbQ bA
                     clear hbQ
                     have hbQ := hbN
                     clear hbN
                     have hSQ := HBS20.out _ hbQ
                     go_wp2_with fail
                     refine hK.out _ _ hSQ (fun hSx => ?_)
                     clear hK K
                     try simp only [Act.put, List.setIfInBounds_toArray, List.set_cons_zero, List.set_cons_succ]
                     refine wpAnyH_ready (rs := [13]) (by kernel_rfl) (by simp) ?_
                     refine AllReadyH.cons (o := ⟨some 130, .call { callee := .value (.func 23), args := #[.tmp 127, .tmp 129], argTypes := #[35, 35] }, 4, "law.go:105", #[⟨10, .data⟩, ⟨12, .data⟩, ⟨10, .chain⟩, ⟨8, .guard⟩], some (8, false)⟩) rfl (fun K hK => ?_) AllReadyH.nil
                     go_simp
                     go_at_call 23
                     refine (KSM.out _ _ hbQ (Lies.of_own oA)).mono ?_
                     rintro e wC ⟨rfl, bC⟩
                     have hbN := below_on hbQ bC
                     clear hbQ
                     have hbQ := hbN
                     clear hbN
                     have hSQ := HBS20.out _ hbQ
                     go_wp2_with fail
                     refine hK.out _ _ hSQ (fun hSx => ?_)
                     clear hK K
                     try simp only [Act.put, List.setIfInBounds_toArray, List.set_cons_zero, List.set_cons_succ]
                     refine' wpAnyH_take (i := 14) (oi := ⟨some 131, .unOp .not 4 (.tmp 130), 4, "law.go:105", #[⟨13, .data⟩, ⟨8, .guard⟩], some (8, false)⟩) (v := _) rfl (by kernel_rfl) (by kernel_rfl) (by kernel_rfl) (fun _ _ _ h => h) (Or.inl ⟨by rfl, ?hy61⟩) (by assumption) ?rest61
                     case hy61 => (intro w hSw; (try dsimp only at hSw); go_simp; try with_reducible rfl)
                     try simp only [Act.put, List.setIfInBounds_toArray, List.set_cons_zero, List.set_cons_succ]
                     refine' wpAnyH_take (i := 15) (oi := ⟨some 132, .pick (.tmp 125) (.const (.bool true)) (.tmp 131), 4, "law.go:105", #[⟨8, .data⟩, ⟨14, .data⟩], none⟩) (v := _) rfl (by kernel_rfl) (by kernel_rfl) (by kernel_rfl) (fun _ _ _ h => h) (Or.inl ⟨by rfl, ?hy62⟩) (by assumption) ?rest62
                     case hy62 => (intro w hSw; (try dsimp only at hSw); go_simp; try with_reducible rfl)
                     try simp only [Act.put, List.setIfInBounds_toArray, List.set_cons_zero, List.set_cons_succ]
                     refine' wpAnyH_take (i := 16) (oi := ⟨some 133, .move (.tmp 132), 4, "law.go:105", #[⟨15, .data⟩, ⟨13, .chain⟩], none⟩) (v := _) rfl (by kernel_rfl) (by kernel_rfl) (by kernel_rfl) (fun _ _ _ h => h) (Or.inl ⟨by rfl, ?hy63⟩) (by assumption) ?rest63
                     case hy63 => (intro w hSw; (try dsimp only at hSw); go_simp; try with_reducible rfl)
                     try simp only [Act.put, List.setIfInBounds_toArray, List.set_cons_zero, List.set_cons_succ]
                     refine' wpAnyH_take (i := 17) (oi := ⟨some 134, .move (.tmp 25), 63, "law.go:105", #[⟨16, .guard⟩], some (16, false)⟩) (v := _) rfl (by kernel_rfl) (by kernel_rfl) (by kernel_rfl) (fun _ _ _ h => h) (Or.inl ⟨by rfl, ?hy64⟩) (by assumption) ?rest64
                     case hy64 => (intro w hSw; (try dsimp only at hSw); go_simp; try with_reducible rfl)
                     try simp only [Act.put, List.setIfInBounds_toArray, List.set_cons_zero, List.set_cons_succ]
                     refine' wpAnyH_take (i := 18) (oi := ⟨some 135, .call { callee := .builtin .len, args := #[.tmp 134], argTypes := #[63] }, 3, "law.go:105", #[⟨17, .data⟩, ⟨16, .guard⟩], some (16, false)⟩) (v := _) rfl (by kernel_rfl) (by kernel_rfl) (by kernel_rfl) (fun _ _ _ h => h) (Or.inl ⟨by rfl, ?hy65⟩) (by assumption) ?rest65
                     case hy65 => (intro w hSw; (try dsimp only at hSw); go_simp; try with_reducible rfl)
                     try simp only [Act.put, List.setIfInBounds_toArray, List.set_cons_zero, List.set_cons_succ]
                     refine' wpAnyH_take (i := 19) (oi := ⟨some 136, .binOp .gtr 3 (.tmp 135) (.const (.int .i64 1)) 3, 4, "law.go:105", #[⟨18, .data⟩, ⟨16, .guard⟩], some (16, false)⟩) (v := _) rfl (by kernel_rfl) (by kernel_rfl) (by kernel_rfl) (fun _ _ _ h => h) (Or.inl ⟨by rfl, ?hy66⟩) (by assumption) ?rest66
                     case hy66 => (intro w hSw; (try dsimp only at hSw); go_simp; try with_reducible rfl)
                     try simp only [Act.put, List.setIfInBounds_toArray, List.set_cons_zero, List.set_cons_succ]
                     refine' wpAnyH_take (i := 20) (oi := ⟨some 137, .pick (.tmp 133) (.const (.bool true)) (.tmp 136), 4, "law.go:105", #[⟨16, .data⟩, ⟨19, .data⟩], none⟩) (v := _) rfl (by kernel_rfl) (by kernel_rfl) (by kernel_rfl) (fun _ _ _ h => h) (Or.inl ⟨by rfl, ?hy67⟩) (by assumption) ?rest67
                     case hy67 => (intro w hSw; (try dsimp only at hSw); go_simp; try with_reducible rfl)
                     try simp only [Act.put, List.setIfInBounds_toArray, List.set_cons_zero, List.set_cons_succ]
                     refine' wpAnyH_take (i := 21) (oi := ⟨some 138, .move (.tmp 137), 4, "law.go:105", #[⟨20, .data⟩, ⟨16, .chain⟩], none⟩) (v := _) rfl (by kernel_rfl) (by kernel_rfl) (by kernel_rfl) (fun _ _ _ h => h) (Or.inl ⟨by rfl, ?hy68⟩) (by assumption) ?rest68
                     case hy68 => (intro w hSw; (try dsimp only at hSw); go_simp; try with_reducible rfl)
                     try simp only [Act.put, List.setIfInBounds_toArray, List.set_cons_zero, List.set_cons_succ]
                     refine' wpAnyH_take (i := 22) (oi := ⟨some 139, .fieldAddr 53 (.tmp 18) 0, 0, "law.go:105", #[⟨21, .guard⟩], some (21, false)⟩) (v := _) rfl (by kernel_rfl) (by kernel_rfl) (by kernel_rfl) (fun _ _ _ h => h) (Or.inl ⟨by rfl, ?hy69⟩) (by assumption) ?rest69
                     case hy69 => (intro w hSw; (try dsimp only at hSw); go_simp; try with_reducible rfl)
                     try simp only [Act.put, List.setIfInBounds_toArray, List.set_cons_zero, List.set_cons_succ]
                     refine' wpAnyH_take (i := 23) (oi := ⟨some 140, .load 3 (.tmp 139), 3, "law.go:105", #[⟨22, .data⟩, ⟨21, .guard⟩], some (21, false)⟩) (v := _) rfl (by kernel_rfl) (by kernel_rfl) (by kernel_rfl) (fun _ _ _ h => h) (Or.inl ⟨by rfl, ?hy70⟩) (by assumption) ?rest70
                     case hy70 => (intro w hSw; (try dsimp only at hSw); go_simp; try with_reducible rfl)
                     try simp only [Act.put, List.setIfInBounds_toArray, List.set_cons_zero, List.set_cons_succ]
                     refine' wpAnyH_take (i := 24) (oi := ⟨some 141, .binOp .neq 3 (.tmp 140) (.const (.int .i64 0)) 3, 4, "law.go:105", #[⟨23, .data⟩, ⟨21, .guard⟩], some (21, false)⟩) (v := _) rfl (by kernel_rfl) (by kernel_rfl) (by kernel_rfl) (fun _ _ _ h => h) (Or.inl ⟨by rfl, ?hy71⟩) (by assumption) ?rest71
                     case hy71 => (intro w hSw; (try dsimp only at hSw); go_simp; try with_reducible rfl)
                     try simp only [Act.put, List.setIfInBounds_toArray, List.set_cons_zero, List.set_cons_succ]
                     refine' wpAnyH_take (i := 25) (oi := ⟨some 142, .move (.tmp 25), 63, "law.go:105", #[⟨21, .guard⟩], some (21, false)⟩) (v := _) rfl (by kernel_rfl) (by kernel_rfl) (by kernel_rfl) (fun _ _ _ h => h) (Or.inl ⟨by rfl, ?hy72⟩) (by assumption) ?rest72
                     case hy72 => (intro w hSw; (try dsimp only at hSw); go_simp; try with_reducible rfl)
                     try simp only [Act.put, List.setIfInBounds_toArray, List.set_cons_zero, List.set_cons_succ]
                     refine' wpAnyH_take (i := 26) (oi := ⟨some 143, .call { callee := .builtin .len, args := #[.tmp 142], argTypes := #[63] }, 3, "law.go:105", #[⟨25, .data⟩, ⟨21, .guard⟩], some (21, false)⟩) (v := _) rfl (by kernel_rfl) (by kernel_rfl) (by kernel_rfl) (fun _ _ _ h => h) (Or.inl ⟨by rfl, ?hy73⟩) (by assumption) ?rest73
                     case hy73 => (intro w hSw; (try dsimp only at hSw); go_simp; try with_reducible rfl)
                     try simp only [Act.put, List.setIfInBounds_toArray, List.set_cons_zero, List.set_cons_succ]
                     refine' wpAnyH_take (i := 27) (oi := ⟨some 144, .binOp .eql 3 (.tmp 143) (.const (.int .i64 1)) 3, 4, "law.go:105", #[⟨26, .data⟩, ⟨21, .guard⟩], some (21, false)⟩) (v := _) rfl (by kernel_rfl) (by kernel_rfl) (by kernel_rfl) (fun _ _ _ h => h) (Or.inl ⟨by rfl, ?hy74⟩) (by assumption) ?rest74
                     case hy74 => (intro w hSw; (try dsimp only at hSw); go_simp; try with_reducible rfl)
                     try simp only [Act.put, List.setIfInBounds_toArray, List.set_cons_zero, List.set_cons_succ]
                     refine' wpAnyH_take (i := 28) (oi := ⟨some 145, .binOp .neq 4 (.tmp 141) (.tmp 144) 4, 4, "law.go:105", #[⟨24, .data⟩, ⟨27, .data⟩, ⟨21, .guard⟩], some (21, false)⟩) (v := _) rfl (by kernel_rfl) (by kernel_rfl) (by kernel_rfl) (fun _ _ _ h => h) (Or.inl ⟨by rfl, ?hy75⟩) (by assumption) ?rest75
                     case hy75 => (intro w hSw; (try dsimp only at hSw); go_simp; try with_reducible rfl)
                     try simp only [Act.put, List.setIfInBounds_toArray, List.set_cons_zero, List.set_cons_succ]
                     refine' wpAnyH_take (i := 29) (oi := ⟨some 146, .pick (.tmp 138) (.const (.bool true)) (.tmp 145), 4, "law.go:105", #[⟨21, .data⟩, ⟨28, .data⟩], none⟩) (v := _) rfl (by kernel_rfl) (by kernel_rfl) (by kernel_rfl) (fun _ _ _ h => h) (Or.inl ⟨by rfl, ?hy76⟩) (by assumption) ?rest76
                     case hy76 => (intro w hSw; (try dsimp only at hSw); go_simp; try with_reducible rfl)
                     try simp only [Act.put, List.setIfInBounds_toArray, List.set_cons_zero, List.set_cons_succ]
                     refine' wpAnyH_take (i := 30) (oi := ⟨some 147, .move (.tmp 146), 4, "law.go:105", #[⟨29, .data⟩, ⟨21, .chain⟩], none⟩) (v := _) rfl (by kernel_rfl) (by kernel_rfl) (by kernel_rfl) (fun _ _ _ h => h) (Or.inl ⟨by rfl, ?hy77⟩) (by assumption) ?rest77
                     case hy77 => (intro w hSw; (try dsimp only at hSw); go_simp; try with_reducible rfl)
                     try simp only [Act.put, List.setIfInBounds_toArray, List.set_cons_zero, List.set_cons_succ]
                     refine' wpAnyH_take (i := 31) (oi := ⟨some 148, .move (.tmp 25), 63, "law.go:105", #[⟨30, .guard⟩], some (30, false)⟩) (v := _) rfl (by kernel_rfl) (by kernel_rfl) (by kernel_rfl) (fun _ _ _ h => h) (Or.inl ⟨by rfl, ?hy78⟩) (by assumption) ?rest78
                     case hy78 => (intro w hSw; (try dsimp only at hSw); go_simp; try with_reducible rfl)
                     try simp only [Act.put, List.setIfInBounds_toArray, List.set_cons_zero, List.set_cons_succ]
                     refine' wpAnyH_take (i := 32) (oi := ⟨some 149, .call { callee := .builtin .len, args := #[.tmp 148], argTypes := #[63] }, 3, "law.go:105", #[⟨31, .data⟩, ⟨30, .guard⟩], some (30, false)⟩) (v := _) rfl (by kernel_rfl) (by kernel_rfl) (by kernel_rfl) (fun _ _ _ h => h) (Or.inl ⟨by rfl, ?hy79⟩) (by assumption) ?rest79
                     case hy79 => (intro w hSw; (try dsimp only at hSw); go_simp; try with_reducible rfl)
                     try simp only [Act.put, List.setIfInBounds_toArray, List.set_cons_zero, List.set_cons_succ]
                     refine' wpAnyH_take (i := 33) (oi := ⟨some 150, .binOp .eql 3 (.tmp 149) (.const (.int .i64 1)) 3, 4, "law.go:105", #[⟨32, .data⟩, ⟨30, .guard⟩], some (30, false)⟩) (v := _) rfl (by kernel_rfl) (by kernel_rfl) (by kernel_rfl) (fun _ _ _ h => h) (Or.inl ⟨by rfl, ?hy80⟩) (by assumption) ?rest80
                     case hy80 => (intro w hSw; (try dsimp only at hSw); go_simp; try with_reducible rfl)
                     try simp only [Act.put, List.setIfInBounds_toArray, List.set_cons_zero, List.set_cons_succ]
                     refine' wpAnyH_take (i := 34) (oi := ⟨some 151, .move (.tmp 150), 4, "law.go:105", #[⟨33, .data⟩, ⟨30, .chain⟩, ⟨30, .guard⟩], some (30, false)⟩) (v := _) rfl (by kernel_rfl) (by kernel_rfl) (by kernel_rfl) (fun _ _ _ h => h) (Or.inl ⟨by rfl, ?hy81⟩) (by assumption) ?rest81
                     case hy81 => (intro w hSw; (try dsimp only at hSw); go_simp; try with_reducible rfl)
                     try simp only [Act.put, List.setIfInBounds_toArray, List.set_cons_zero, List.set_cons_succ]
                     refine' wpAnyH_take (i := 35) (oi := ⟨some 152, .move (.tmp 25), 63, "law.go:105", #[⟨34, .guard⟩], some (34, true)⟩) (v := _) rfl (by kernel_rfl) (by kernel_rfl) (by kernel_rfl) (fun _ _ _ h => h) (Or.inl ⟨by rfl, ?hy82⟩) (by assumption) ?rest82
                     case hy82 => (intro w hSw; (try dsimp only at hSw); go_simp; try with_reducible rfl)
                     try simp only [Act.put, List.setIfInBounds_toArray, List.set_cons_zero, List.set_cons_succ]
                     refine' wpAnyH_take (i := 36) (oi := ⟨some 153, .indexAddr 63 (.tmp 152) (.const (.int .i64 0)), 0, "law.go:105", #[⟨35, .data⟩, ⟨34, .guard⟩], some (34, true)⟩) (v := _) rfl (by kernel_rfl) (by kernel_rfl) (by kernel_rfl) (fun _ _ _ h => h) (Or.inl ⟨by rfl, ?hy83⟩) (by assumption) ?rest83
                     case hy83 => (intro w hSw; (try dsimp only at hSw); go_simp; try with_reducible rfl)
                     try simp only [Act.put, List.setIfInBounds_toArray, List.set_cons_zero, List.set_cons_succ]
                     refine' wpAnyH_take (i := 37) (oi := ⟨some 154, .load 67 (.tmp 153), 67, "law.go:105", #[⟨36, .data⟩, ⟨34, .guard⟩], some (34, true)⟩) (v := _) rfl (by kernel_rfl) (by kernel_rfl) (by kernel_rfl) (fun _ _ _ h => h) (Or.inl ⟨by rfl, ?hy84⟩) (by assumption) ?rest84
                     case hy84 => (intro w hSw; (try dsimp only at hSw); go_simp; try with_reducible rfl)
                     try simp only [Act.put, List.setIfInBounds_toArray, List.set_cons_zero, List.set_cons_succ]
                     refine' wpAnyH_take (i := 38) (oi := ⟨some 155, .load 53 (.tmp 18), 53, "law.go:105", #[⟨34, .guard⟩], some (34, true)⟩) (v := _) rfl (by kernel_rfl) (by kernel_rfl) (by kernel_rfl) (fun _ _ _ h => h) (Or.inl ⟨by rfl, ?hy85⟩) (by assumption) ?rest85
                     case hy85 => (intro w hSw; (try dsimp only at hSw); go_simp; try with_reducible rfl)
                     try simp only [Act.put, List.setIfInBounds_toArray, List.set_cons_zero, List.set_cons_succ]
                     refine' wpAnyH_take (i := 39) (oi := ⟨some 156, .binOp .neq 53 (.tmp 154) (.tmp 155) 53, 4, "law.go:105", #[⟨37, .data⟩, ⟨38, .data⟩, ⟨34, .guard⟩], some (34, true)⟩) (v := _) rfl (by kernel_rfl) (by kernel_rfl) (by kernel_rfl) (fun _ _ _ h => h) (Or.inl ⟨by rfl, ?hy86⟩) (by assumption) ?rest86
                     case hy86 => (intro w hSw; (try dsimp only at hSw); go_simp; try with_reducible rfl)
                     try simp only [Act.put, List.setIfInBounds_toArray, List.set_cons_zero, List.set_cons_succ]
                     refine' wpAnyH_take (i := 40) (oi := ⟨some 157, .pick (.tmp 151) (.tmp 156) (.const (.bool false)), 4, "law.go:105", #[⟨34, .data⟩, ⟨39, .data⟩, ⟨30, .guard⟩], some (30, false)⟩) (v := _) rfl (by kernel_rfl) (by kernel_rfl) (by kernel_rfl) (fun _ _ _ h => h) (Or.inl ⟨by rfl, ?hy87⟩) (by assumption) ?rest87
                     case hy87 => (intro w hSw; (try dsimp only at hSw); go_simp; try with_reducible rfl)
                     try simp only [Act.put, List.setIfInBounds_toArray, List.set_cons_zero, List.set_cons_succ]
                     refine' wpAnyH_take (i := 41) (oi := ⟨some 158, .pick (.tmp 147) (.const (.bool true)) (.tmp 157), 4, "law.go:105", #[⟨30, .data⟩, ⟨40, .data⟩], none⟩) (v := _) rfl (by kernel_rfl) (by kernel_rfl) (by kernel_rfl) (fun _ _ _ h => h) (Or.inl ⟨by rfl, ?hy88⟩) (by assumption) ?rest88
                     case hy88 => (intro w hSw; (try dsimp only at hSw); go_simp; try with_reducible rfl)
                     try simp only [Act.put, List.setIfInBounds_toArray, List.set_cons_zero, List.set_cons_succ]
                     refine wpAnyH_done (by kernel_rfl) ?_ _
                     have BQ := Lib.hid hbQ
                     clear hbQ hSQ
                     go_wp2_with fail
                     refine (KWD.out _ BQ.out).mono ?_
                     rintro e w9 ⟨v9, rfl, own9, b9⟩
                     obtain ⟨A9, c9, rfl⟩ := own_open14 own9
                     have HIE : Hid (Inv17s w w9 g rb bs G0 N (.slice A9 N c9) (.slice A2 n2 c2)) := Lib.hid (HIF.out w9 A9 c9 (below_on BQ.out b9) (own_rebase17 own9 BQ.out.size))
                     have HRE := Lib.hid (HR7.out.below (below_on BQ.out b9))
                     clear own9 b9
                     go_wp2
                     go_meet
                     case rel => exact ⟨rfl, ⟨_, _, _, _, _, _, rfl, rfl, HIE⟩, HRE⟩
    · obtain rfl : n = k := by omega
      obtain ⟨G, V, E, R, At', nt', ct', Al', nl', cl', U, P, hOK, hSM, hVN, hE8, hRL, L⟩ := HI.out
      have hbw := L.lp.below
      have KA := Lib.hid (alive17 wr (HT.out wr hbw))
      have BW := Lib.hid hbw
      clear L hOK hSM hVN hE8 hRL hbw HI HV
      go_wp2_with fail
      refine KA.out.mono ?_
      rintro e w9 ⟨rfl, b9⟩
      have B9 := Lib.hid (below_on BW.out b9)
      clear b9
      go_wp2
      go_ret
      exact ⟨rfl, B9.out⟩
end

section
open Go.ChangeShapes Go.WideShapes Go.ChangeAt Go.RowKit
set_option maxRecDepth 100000 in
set_option maxHeartbeats 2000000 in
theorem takerSteps_any (B R self peer own : Int) (v : Value) (l : List (List Int)) (w : World) (hT : TabAt w) (hv : Recs w 3 v l) :
    Calls Tryz.prog 3 #[baseV17 B R self peer own, v] w fun e w' => e = .returned (.bool true) ∧ Below w.heap.size w w' := by
  have BA := Lib.hid (below_al w (.cells #[.int .i64 B, .int .i64 R, .int .i64 self, .int .i64 peer, .int .i64 own] 25))
  obtain ⟨A, c, rfl, -⟩ := id hv
  have KF := Lib.hid (fun W => few17_any B R self peer own A l.length c W)
  have KA := Lib.hid (fun W (hb : Below w.heap.size w W) => alive17 W (hT.below hb))
  cases hfew : few17B B l.length with
  | false =>
    rw [hfew] at KF
    obtain ⟨n, hn⟩ : ∃ n, l.length = n := ⟨_, rfl⟩
    rw [hn] at KF ⊢
    unfold baseV17 at *
    clear hv hT hfew hn
    go_enter Tryz.func3, Tryz.ntmps3
    go_wp2_with fail
    refine (KF.out _).mono ?_
    rintro e w2 ⟨rfl, b2⟩
    have B2 := Lib.hid (below_on BA.out b2)
    clear b2
    go_wp2_with fail
    refine (KA.out _ B2.out).mono ?_
    rintro e w3 ⟨rfl, b3⟩
    have B3 := Lib.hid (below_on B2.out b3)
    clear b3
    go_wp2
    go_ret
    exact ⟨rfl, B3.out⟩
  | true =>
    by_cases hok : ok17 B R self peer own
    · obtain ⟨r, rfl⟩ := Int.eq_ofNat_of_zero_le (show 0 ≤ R by have := hok.1; unfold okRing at this; omega)
      exact steps17_loop B self peer own r (.slice A l.length c) l w hok hT hv hfew
    · rw [hfew] at KF
      have KM := Lib.hid (fun W => made17_no hok W)
      have KI := Lib.hid (fun W => ris17_any B R self peer own W)
      have hokd : decide (ok17 B R self peer own) = false := decide_eq_false hok
      rw [hokd] at KI
      have RW : Hid (∀ W, Below (w.alloc (.cells #[.int .i64 B, .int .i64 R, .int .i64 self, .int .i64 peer, .int .i64 own] 25)).heap.size (w.alloc (.cells #[.int .i64 B, .int .i64 R, .int .i64 self, .int .i64 peer, .int .i64 own] 25)) W → Row W w.heap.size 25 [.int .i64 B, .int .i64 R, .int .i64 self, .int .i64 peer, .int .i64 own]) := Lib.hid (fun W hb => (Row.new w 25 #[.int .i64 B, .int .i64 R, .int .i64 self, .int .i64 peer, .int .i64 own]).below hb)
      obtain ⟨n, hn⟩ : ∃ n, l.length = n := ⟨_, rfl⟩
      rw [hn] at KF ⊢
      unfold baseV17 at *
      clear hv hT hfew hok hokd hn
      go_enter Tryz.func3, Tryz.ntmps3
      go_wp2_with fail
      refine (KF.out _).mono ?_
      rintro e w2 ⟨rfl, b2⟩
      have R2 := Lib.hid (RW.out _ b2)
      have p0 := R2.out.cell 0
      have p1 := R2.out.cell 1
      have p2 := R2.out.cell 2
      have p3 := R2.out.cell 3
      have p4 := R2.out.cell 4
      simp only [List.getElem?_cons_zero, List.getElem?_cons_succ] at p0 p1 p2 p3 p4
      have B2 := Lib.hid (below_on BA.out b2)
      clear b2 KF RW
      go_wp2_with fail
      refine (KM.out _).mono ?_
      rintro e w3 ⟨rfl, b3⟩
      have R3 := R2.out.below b3
      have q0 := R3.cell 0
      have q1 := R3.cell 1
      have q2 := R3.cell 2
      have q3 := R3.cell 3
      have q4 := R3.cell 4
      simp only [List.getElem?_cons_zero, List.getElem?_cons_succ] at q0 q1 q2 q3 q4
      have B3 := Lib.hid (below_on B2.out b3)
      clear b3 KM R3 p0 p1 p2 p3 p4
      go_wp2_with fail
      refine (KI.out _).mono ?_
      rintro e w' ⟨rfl, rfl⟩
      go_wp2_with fail
      refine (KA.out _ B3.out).mono ?_
      rintro e w4 ⟨rfl, b4⟩
      have B4 := Lib.hid (below_on B3.out b4)
      clear b4
      go_wp2
      go_ret
      exact ⟨rfl, B4.out⟩
section
variable {H : Type} {enc : TypeId × Value → H} {P : Program} {w : World} {base : Nat} {spare : Nat → Bool} {held : Bool}
/-- A struct of four fields, one behind the other. -/
theorem IntsOf.four17 {t : TypeId} {f0 f1 f2 f3 : Field} {n0 n1 n2 n3 : Nat} (ht : P.underlying t = some (.struct #[f0, f1, f2, f3])) (o0 : f0.offset = 0) (o1 : f1.offset = n0) (o2 : f2.offset = n0 + n1) (o3 : f3.offset = n0 + n1 + n2)
    (c0 : P.cellsOf f0.type = n0) (c1 : P.cellsOf f1.type = n1) (c2 : P.cellsOf f2.type = n2) (c3 : P.cellsOf f3.type = n3) (hC : P.cellsOf t = n0 + n1 + n2 + n3)
    (h0 : IntsOf enc P w base spare held f0.type n0) (h1 : IntsOf enc P w base spare held f1.type n1) (h2 : IntsOf enc P w base spare held f2.type n2) (h3 : IntsOf enc P w base spare held f3.type n3) : IntsOf enc P w base spare held t (n0 + n1 + n2 + n3) := by
  intro fuel cs x h
  obtain ⟨y0, y1, y2, y3, n, _, hl, e0, e1, e2, e3⟩ := Go.Joins.trod_struct4 ht h
  rw [o0, c0, List.drop_zero] at e0
  rw [o1, c1] at e1
  rw [o2, c2] at e2
  rw [o3, c3] at e3
  rw [hC] at hl
  obtain ⟨z0, hz0, l0, b0⟩ := h0 _ _ _ e0
  obtain ⟨z1, hz1, l1, b1⟩ := h1 _ _ _ e1
  obtain ⟨z2, hz2, l2, b2⟩ := h2 _ _ _ e2
  obtain ⟨z3, hz3, l3, b3⟩ := h3 _ _ _ e3
  rw [List.take_of_length_le (by simp; omega)] at hz3
  refine ⟨z0 ++ (z1 ++ (z2 ++ z3)), ?_, by simp only [List.length_append, l0, l1, l2, l3]; omega, fun z hz => ?_⟩
  · rw [ints_append, ints_append, ints_append, ← hz0, ← hz1, ← hz2, ← hz3, ← List.drop_drop (i := n2) (j := n0 + n1), List.take_append_drop, ← List.drop_drop (i := n1) (j := n0), List.take_append_drop, List.take_append_drop]
  · rcases List.mem_append.1 hz with hz | hz
    · exact b0 z hz
    · rcases List.mem_append.1 hz with hz | hz
      · exact b1 z hz
      · rcases List.mem_append.1 hz with hz | hz
        · exact b2 z hz
        · exact b3 z hz
theorem base17_ints : IntsOf enc Tryz.prog w base spare held 25 5 := by
  have h1 : IntsOf enc Tryz.prog w base spare held 23 2 := IntsOf.rec_ Tryz.underlying23 (by kernel_rfl) (by kernel_rfl) (by kernel_rfl)
  have i := IntsOf.int (enc := enc) (w := w) (base := base) (spare := spare) (held := held) Tryz.underlying3
  exact IntsOf.four17 (n0 := 2) (n1 := 1) (n2 := 1) (n3 := 1) Tryz.underlying25 rfl rfl rfl rfl (by kernel_rfl) (by kernel_rfl) (by kernel_rfl) (by kernel_rfl) (by kernel_rfl) h1 i i i
end
end

end Go.Proofs.YtiofipofbeodpaaGreatDoor
