/-
  Layer 17 (taker): the walk of the law TakerSafe.
  Conditions: those that each theorem states.
-/
import Derived.Test.YtgdbaaoifnedbaaDoorTk18
import Derived.Deep.RegionHeld3
namespace Go.Proofs.YtgdbaaoifnedbaaDoor
open Go.ChangeShapes Go.WideShapes Go.ChangeAt Go.RowKit

/-- The memory of the law's loop: the argument's variable, the taker, the two lists. -/
structure Lq17 (w wr : World) (g : Nat) (bs : List Value) (G : Tk) (V E : List Int) (v1 v2 : Value) (U P : Nat → Prop) : Prop where
  base : Row wr w.heap.size 25 bs
  kis : KIs wr U g G
  wld : Wld17 wr P V E v1 v2
  disj : ∀ x, U x → ¬ P x
  hU : ∀ x, U x → w.heap.size < x
  hP : ∀ x, P x → w.heap.size < x
  below : Below w.heap.size w wr

section
variable {w wr : World} {g : Nat} {bs : List Value} {G : Tk} {V E : List Int} {v1 v2 : Value} {U P : Nat → Prop}

theorem Lq17.quiet (L : Lq17 w wr g bs G V E v1 v2 U P) {w1 : World} (hb : Below wr.heap.size wr w1) : Lq17 w w1 g bs G V E v1 v2 U P :=
  ⟨L.base.below hb, L.kis.below hb, L.wld.below hb, L.disj, L.hU, L.hP, L.below.trans (hb.mono L.below.size)⟩

/-- The taker alone has changed. -/
theorem Lq17.taker (L : Lq17 w wr g bs G V E v1 v2 U P) {w1 : World} {G' : Tk} (hg : KIs w1 (fun x => U x ∨ wr.heap.size ≤ x) g G') (ho : Only U wr w1) :
    Lq17 w w1 g bs G' V E v1 v2 (fun x => U x ∨ wr.heap.size ≤ x) (fun x => P x ∧ x < wr.heap.size) := by
  have hs := L.below.size
  have hbl := L.base.lt
  refine ⟨L.base.only ho (fun h => by have := L.hU _ h; omega), hg, (L.wld.weak (fun x hx hp => ⟨hp, hx⟩)).only ho (fun x hx hp => L.disj x hx hp.1), fun x hx hp => ?_, fun x hx => ?_, fun x hx => L.hP x hx.1, Only.below L.below ho hs (fun x hx h => by have := L.hU x h; omega)⟩
  · rcases hx with hx | hx
    · exact L.disj x hx hp.1
    · omega
  · rcases hx with hx | hx
    · exact L.hU x hx
    · omega

/-- Other lists lie in the place of the two. -/
theorem Lq17.lists (L : Lq17 w wr g bs G V E v1 v2 U P) {w1 : World} {V' E' : List Int} {u1 u2 : Value} (hb : Below wr.heap.size wr w1) (hw : Wld17 w1 (fun x => P x ∨ wr.heap.size ≤ x) V' E' u1 u2) :
    Lq17 w w1 g bs G V' E' u1 u2 (fun x => U x ∧ x < wr.heap.size) (fun x => P x ∨ wr.heap.size ≤ x) := by
  have hbl := L.base.lt
  refine ⟨L.base.below hb, (L.kis.weak (U' := fun x => U x ∧ x < wr.heap.size) (fun x hx hu => ⟨hu, hx⟩)).below hb, hw, fun x hx hp => ?_, fun x hx => L.hU x hx.1, fun x hx => ?_, L.below.trans (hb.mono L.below.size)⟩
  · rcases hp with hp | hp
    · exact L.disj x hx.1 hp
    · omega
  · rcases hx with hx | hx
    · exact L.hP x hx
    · omega
theorem Lq17.setV (L : Lq17 w wr g bs G V E v1 v2 U P) {w1 : World} {V' : List Int} {u : Value} (hb : Below wr.heap.size wr w1) (ho : w1.ownsRow wr.heap.size 3 1 u V'.length (ints V')) :
    Lq17 w w1 g bs G V' E u v2 (fun x => U x ∧ x < wr.heap.size) (fun x => P x ∨ wr.heap.size ≤ x) :=
  L.lists hb ⟨(Lies.of_own ho).weak (fun _ _ h => .inr h), (L.wld.epochs.below hb).weak (fun _ _ h => .inl h), CapOk.of_own ho, L.wld.c2⟩
theorem Lq17.setE (L : Lq17 w wr g bs G V E v1 v2 U P) {w1 : World} {E' : List Int} {u : Value} (hb : Below wr.heap.size wr w1) (ho : w1.ownsRow wr.heap.size 3 1 u E'.length (ints E')) :
    Lq17 w w1 g bs G V E' v1 u (fun x => U x ∧ x < wr.heap.size) (fun x => P x ∨ wr.heap.size ≤ x) :=
  L.lists hb ⟨(L.wld.words.below hb).weak (fun _ _ h => .inl h), (Lies.of_own ho).weak (fun _ _ h => .inr h), L.wld.c1, CapOk.of_own ho⟩

/-- Behind a Step, and behind the words that the port then holds. -/
theorem Lq17.port (L : Lq17 w wr g bs G V E v1 v2 U P) {w5 w6 w7 : World} {t p : Nat} {u : Value} {G' : Tk} {V6 E6 K6 V7 : List Int} {T6 : List Tch} (b5 : Below wr.heap.size wr w5) (s6 : Sys17 w6 (fun x => (U x ∨ wr.heap.size ≤ x) ∨ w5.heap.size ≤ x) g t p G' V6 E6 K6 T6)
    (o6 : Only (fun x => U x ∨ wr.heap.size ≤ x) w5 w6) (b7 : Below w6.heap.size w6 w7) (own7 : w7.ownsRow w6.heap.size 3 1 u V7.length (ints V7)) :
    Lq17 w w7 g bs G' V7 E u v2 (fun x => (U x ∨ wr.heap.size ≤ x) ∧ x < w6.heap.size) (fun x => (P x ∧ x < wr.heap.size) ∨ w6.heap.size ≤ x) ∧
    Sys17 w7 (fun x => (U x ∨ wr.heap.size ≤ x) ∧ x < w6.heap.size) g t p G' V6 E6 K6 T6 := by
  have hs := L.below.size
  have hbl := L.base.lt
  have hs5 := b5.size
  have hs6 := o6.size
  have hs7 := b7.size
  have s6' : Sys17 w6 (fun x => (U x ∨ wr.heap.size ≤ x) ∧ x < w6.heap.size) g t p G' V6 E6 K6 T6 := s6.weak (fun x hx h => ⟨by rcases h with h | h; exact h; exact .inr (by omega), hx⟩)
  have s7 := s6'.below b7
  have hnU : ∀ x, x < wr.heap.size → ¬ U x → ¬ (U x ∨ wr.heap.size ≤ x) := fun x h1 h2 h => h.elim h2 (by omega)
  refine ⟨⟨((L.base.below b5).only o6 (hnU _ hbl (fun h => by have := L.hU _ h; omega))).below b7, s7.gis, ⟨(Lies.of_own own7).weak (fun x _ h => .inr h), ?_, CapOk.of_own own7, L.wld.c2⟩, fun x hx hp => ?_, fun x hx => ?_, fun x hx => ?_, ?_⟩, s7⟩
  · exact (((L.wld.epochs.weak (Q := fun x => P x ∧ x < wr.heap.size) (fun x hx hp => ⟨hp, hx⟩)).below b5).only o6 (fun x hx hp => hnU x hp.2 (fun h => L.disj x h hp.1) hx)).below b7 |>.weak (fun x _ h => .inl h)
  · rcases hp with hp | hp
    · rcases hx.1 with h | h
      · exact L.disj x h hp.1
      · omega
    · omega
  · rcases hx.1 with h | h
    · exact L.hU x h
    · omega
  · rcases hx with h | h
    · exact L.hP x h.1
    · omega
  · refine (Only.below (L.below.trans (b5.mono hs)) o6 (by omega) (fun x hx h => ?_)).trans (b7.mono (by omega))
    rcases h with h | h
    · have := L.hU x h; omega
    · omega

/-- The invariant of the law's loop. -/
def Inv17 (w wr : World) (g : Nat) (bs : List Value) (G0 : Tk) (N Z : Nat) (v1 v2 : Value) : Prop :=
  ∃ G V E U P, Ok17 G ∧ Same17 G0 G ∧ V.length = N ∧ E.length = 8 ∧ (G.st ≠ 0 → Z + pot17 G ≤ 14) ∧ Lq17 w wr g bs G V E v1 v2 U P

theorem tch17_kind (G : Tk) : (tch17 G).1 ≠ 5 := by
  unfold tch17
  repeat' split
  all_goals (intro h; simp at h)
theorem kicks17 (K : List Int) (G : Tk) : aK17 K (tch17 G) = K := by
  unfold aK17 dK14
  rw [if_neg (tch17_kind G)]
end

set_option maxRecDepth 100000 in
set_option maxHeartbeats 8000000 in
theorem safe17_loop (B self peer own : Int) (r : Nat) (v : Value) (l : List (List Int)) (w : World) (hok : ok17 B (r : Int) self peer own) (hT : TabAt w) (hv : Recs w 3 v l) (hfew : few17B B l.length = true) :
    Calls Tryd.prog 5 #[baseV17 B (r : Int) self peer own, v] w fun e w' => e = .returned (.bool true) ∧ Below w.heap.size w w' := by
  obtain ⟨h150, h500⟩ := few17_yes hfew
  obtain ⟨A, c, rfl, -⟩ := id hv
  have HV := Lib.hid hv
  obtain ⟨n, hn⟩ : ∃ n, l.length = n := ⟨_, rfl⟩
  rw [hn] at h150 hfew HV ⊢
  have HT := Lib.hid (fun W (hb : Below w.heap.size w W) => hT.below hb)
  obtain ⟨bs, hbs⟩ : ∃ bs : List Value, bs = [.int .i64 B, .int .i64 (r : Int), .int .i64 self, .int .i64 peer, .int .i64 own] := ⟨_, rfl⟩
  obtain ⟨G0, hG0⟩ : ∃ G0, G0 = new17 B r peer own := ⟨_, rfl⟩
  have HG0 : Hid (G0.B = B ∧ G0.peer = peer) := Lib.hid (by rw [hG0]; exact ⟨rfl, rfl⟩)
  have HR0 : Hid (G0.R = r) := Lib.hid (by rw [hG0]; rfl)
  have HOK0 : Hid (Ok17 G0) := Lib.hid (by rw [hG0]; exact ok17_new hok)
  have HS0 : Hid (G0.st = 0) := Lib.hid (by rw [hG0]; rfl)
  have r0 := Row.new w 25 #[.int .i64 B, .int .i64 (r : Int), .int .i64 self, .int .i64 peer, .int .i64 own]
  have R0 : Hid (Row (w.alloc (.cells #[.int .i64 B, .int .i64 (r : Int), .int .i64 self, .int .i64 peer, .int .i64 own] 25)) w.heap.size 25 bs) := Lib.hid (by rw [hbs]; exact r0)
  have B0 := Lib.hid (below_al w (.cells #[.int .i64 B, .int .i64 (r : Int), .int .i64 self, .int .i64 peer, .int .i64 own] 25))
  have KM := Lib.hid (fun W => made17_yes hok W)
  rw [← hG0] at KM
  have KF := Lib.hid (fun W => few17_any B (r : Int) self peer own A n c W)
  rw [hfew] at KF
  have hBB : 0 ≤ B ∧ B ≤ 65535 := by have := hok.2.1; omega
  have HN := Lib.hid hn
  have HBSV : Hid (bs = [.int .i64 B, .int .i64 (G0.R : Int), .int .i64 self, .int .i64 peer, .int .i64 own]) := Lib.hid (by rw [hbs, hG0]; rfl)
  obtain ⟨N, hN⟩ : ∃ N, B.toNat + (4 + 11 * r) = N := ⟨_, rfl⟩
  have hbd := hok.1.bd
  have hN2 : N ≤ 2000 := by omega
  have KZ := Lib.hid (fun W => size13_any (r : Int) W)
  rw [show sizeP (r : Int) = 4 + 11 * (r : Int) from if_pos hok.1] at KZ
  have hadd : B + (4 + 11 * (r : Int)) = (N : Int) := by omega
  have hwn : IntKind.i64.wrap (N : Int) = (N : Int) := IntWalk.i64_in _ (by omega)
  have hmk : ∀ W : World, (Instr.makeSlice 33 (.int .i64 (N : Int)) (.int .i64 (N : Int))).run Tryd.prog W = .ok (.slice (some ⟨W.heap.size, 0, none⟩) N N) (W.alloc (.cells (madeCells #[.int .i64 0] N) 3)) := fun W => run_make_row' (P := Tryd.prog) 33 3 (.int .i64 0) 8 Tryd.underlying33 int_info rfl .i64 .i64 N (by omega) (by omega) W
  have hmk8 : ∀ W : World, (Instr.makeSlice 33 (.int .i64 8) (.int .i64 8)).run Tryd.prog W = .ok (.slice (some ⟨W.heap.size, 0, none⟩) 8 8) (W.alloc (.cells (madeCells #[.int .i64 0] 8) 3)) := fun W => run_make_row' (P := Tryd.prog) 33 3 (.int .i64 0) 8 Tryd.underlying33 int_info rfl .i64 .i64 8 (by omega) (by omega) W
  unfold baseV17 at *
  clear hv hT hfew hok hn hbs hG0 r0 hN hbd
  go_enter Tryd.func5, Tryd.ntmps5
  go_wp2_with fail
  refine (KM.out _).mono ?_
  rintro e w1 ⟨g, rfl, s1, b1⟩
  have S1 := Lib.hid s1
  have R1 := Lib.hid (R0.out.below b1)
  have B1 := Lib.hid (below_on B0.out b1)
  have q0 := R1.out.cell 0
  have q1 := R1.out.cell 1
  have q2 := R1.out.cell 2
  have q3 := R1.out.cell 3
  have q4 := R1.out.cell 4
  rw [HBSV.out, HR0.out] at q0 q1 q2 q3 q4
  simp only [List.getElem?_cons_zero, List.getElem?_cons_succ] at q0 q1 q2 q3 q4
  clear s1 b1 KM
  unfold ptr
  go_wp2_with fail
  refine (KF.out _).mono ?_
  rintro e w2 ⟨rfl, b2⟩
  have S2 := Lib.hid (S1.out.below b2)
  have R2 := Lib.hid (R1.out.below b2)
  have B2 := Lib.hid (below_on B1.out b2)
  have p0 := R2.out.cell 0
  have p1 := R2.out.cell 1
  rw [HBSV.out, HR0.out] at p0 p1
  simp only [List.getElem?_cons_zero, List.getElem?_cons_succ] at p0 p1
  have hbl2 := R2.out.lt
  have HI0 : Hid (∀ w4 X1 X2, Below w2.heap.size w2 w4 → Row w4 X1 3 (ints (List.replicate N 0)) → Row w4 X2 3 (ints (List.replicate 8 0)) → w2.heap.size ≤ X1 → w2.heap.size ≤ X2 → Inv17 w w4 g bs G0 N 0 (.slice (some ⟨X1, 0, none⟩) N N) (.slice (some ⟨X2, 0, none⟩) 8 8)) := Lib.hid (fun w4 X1 X2 hb x1 x2 h1 h2 => by
    have hs1 := (below_al w (.cells #[.int .i64 B, .int .i64 (r : Int), .int .i64 self, .int .i64 peer, .int .i64 own] 25)).size
    have hsw := R2.out.lt
    have l1 := Lies.of_row (P := fun x => w2.heap.size ≤ x) x1 h1 N
    have l2 := Lies.of_row (P := fun x => w2.heap.size ≤ x) x2 h2 8
    rw [ints_len, List.length_replicate] at l1 l2
    refine ⟨G0, _, _, (fun x => w.heap.size < x ∧ x < w2.heap.size), (fun x => w2.heap.size ≤ x), HOK0.out, ⟨rfl, rfl, rfl, rfl⟩, List.length_replicate, List.length_replicate, fun h => absurd HS0.out h, ⟨R2.out.below hb, ?_, ⟨l1, l2, by unfold CapOk; omega, by unfold CapOk; omega⟩, fun x h1 h2 => by omega, fun x hx => hx.1, fun x hx => by omega, below_on B2.out hb⟩⟩
    exact (S2.out.weak (fun x hx h => ⟨by simp at h; omega, hx⟩)).below hb)
  have HI1 : Hid (Inv17 w (((w2.alloc (.cells (madeCells #[.int .i64 0] N) 3)).alloc (.cells (madeCells #[.int .i64 0] 8) 3))) g bs G0 N 0 (.slice (some ⟨w2.heap.size, 0, none⟩) N N) (.slice (some ⟨w2.heap.size + 1, 0, none⟩) 8 8)) := Lib.hid (by
    have y1 := Row.new w2 3 (madeCells #[.int .i64 0] N)
    have y2 := Row.new (w2.alloc (.cells (madeCells #[.int .i64 0] N) 3)) 3 (madeCells #[.int .i64 0] 8)
    rw [ints_zeros] at y1 y2
    rw [size_al] at y2
    exact HI0.out _ _ _ (below_on (below_al _ _) (below_al _ _)) (y1.below (below_al _ _)) y2 (Nat.le_refl _) (by omega))
  have HI2 : Hid (Inv17 w (((w2.alloc (.cells (madeCells #[.int .i64 0] 8) 3)).alloc (.cells (madeCells #[.int .i64 0] N) 3))) g bs G0 N 0 (.slice (some ⟨w2.heap.size + 1, 0, none⟩) N N) (.slice (some ⟨w2.heap.size, 0, none⟩) 8 8)) := Lib.hid (by
    have y1 := Row.new w2 3 (madeCells #[.int .i64 0] 8)
    have y2 := Row.new (w2.alloc (.cells (madeCells #[.int .i64 0] 8) 3)) 3 (madeCells #[.int .i64 0] N)
    rw [ints_zeros] at y1 y2
    rw [size_al] at y2
    exact HI0.out _ _ _ (below_on (below_al _ _) (below_al _ _)) y2 (y1.below (below_al _ _)) (by omega) (Nat.le_refl _))
  have HIL : Hid (∀ w4, Inv17 w w4 g bs G0 N 0 (.slice (some ⟨w2.heap.size, 0, none⟩) N N) (.slice (some ⟨w2.heap.size + 1, 0, none⟩) 8 8) → Inv17 w w4.drew g bs G0 N 0 (.slice (some ⟨w2.heap.size, 0, none⟩) N N) (.slice (some ⟨w2.heap.size + 1, 0, none⟩) 8 8)) := Lib.hid (fun w4 ⟨G, V, E, U, P, h1, h2, h3, h4, h5, h6⟩ => ⟨G, V, E, U, P, h1, h2, h3, h4, h5, h6.quiet (Below.refl _ _).drew⟩)
  have HIR : Hid (∀ w4, Inv17 w w4 g bs G0 N 0 (.slice (some ⟨w2.heap.size + 1, 0, none⟩) N N) (.slice (some ⟨w2.heap.size, 0, none⟩) 8 8) → Inv17 w w4.drew g bs G0 N 0 (.slice (some ⟨w2.heap.size + 1, 0, none⟩) N N) (.slice (some ⟨w2.heap.size, 0, none⟩) 8 8)) := Lib.hid (fun w4 ⟨G, V, E, U, P, h1, h2, h3, h4, h5, h6⟩ => ⟨G, V, E, U, P, h1, h2, h3, h4, h5, h6.quiet (Below.refl _ _).drew⟩)
  clear b2 KF q0 q1 q2 q3 q4 S1 S2 R1 R2 B2 B1 B0 R0
  generalize hQ : w.heap.size = Q at *
  go_wp2
  refine' (fun (key : PLift (_ : Prop)) => ?main) ⟨?loop⟩
  case main =>
    go_region_held3 (fun W => W.cell? ⟨Q, 0, none⟩ = some (.int .i64 B) ∧ W.cell? ⟨Q, 1, none⟩ = some (.int .i64 (r : Int)))
      (first | go_keep)
      (first
        | (go_at_call 32; refine (KZ.out _).mono ?_; rintro e w' ⟨rfl, rfl⟩))
    all_goals first
      | (have I := HIL.out _ HI1.out
         generalize (((w2.alloc (.cells (madeCells #[.int .i64 0] N) 3)).alloc (.cells (madeCells #[.int .i64 0] 8) 3)).drew) = W at I ⊢
         generalize (some ⟨w2.heap.size, 0, none⟩ : Option Addr) = X1 at I ⊢
         generalize (some ⟨w2.heap.size + 1, 0, none⟩ : Option Addr) = X2 at I ⊢
         revert I
         revert W
         revert X2
         revert X1
         exact key.down)
      | (have I := HIR.out _ HI2.out
         generalize (((w2.alloc (.cells (madeCells #[.int .i64 0] 8) 3)).alloc (.cells (madeCells #[.int .i64 0] N) 3)).drew) = W at I ⊢
         generalize (some ⟨w2.heap.size + 1, 0, none⟩ : Option Addr) = X1 at I ⊢
         generalize (some ⟨w2.heap.size, 0, none⟩ : Option Addr) = X2 at I ⊢
         revert I
         revert W
         revert X2
         revert X1
         exact key.down)
  subst hQ
  clear HI0 HI1 HI2 HIL HIR HOK0 HS0 hmk hmk8 KZ p0 p1 hbl2
  intro X1 X2 W0 I0
  have HI := Lib.hid I0
  clear I0
  go_wp2
  go_loopw [6, 7, 8, 41] (fun wv ev sv iv wr => ∃ (k Z : Nat) (A1 : Option Addr) (n1 c1 : Nat) (A2 : Option Addr) (n2 c2 : Nat), k ≤ n ∧ Z ≤ k ∧ iv = .int .i64 k ∧ sv = .int .i64 (Z : Int) ∧ wv = .slice A1 n1 c1 ∧ ev = .slice A2 n2 c2 ∧ Hid (Inv17 w wr g bs G0 N Z (.slice A1 n1 c1) (.slice A2 n2 c2))) (fun _ _ _ iv _ => n - (intOf iv).toNat)
  case atStart => exact ⟨0, 0, _, _, _, _, _, _, Nat.zero_le _, Nat.le_refl _, rfl, rfl, rfl, rfl, HI⟩
  case round =>
    clear HI
    obtain ⟨k, Z, A1, n1, c1, A2, n2, c2, hk, hZ, rfl, rfl, rfl, rfl, HI⟩ := hrel
    obtain ⟨G, V, E, U, P, hOK, hSM, hVN, hE8, hPT, L⟩ := HI.out
    have hbw := L.below
    by_cases hlt : k < n
    · obtain ⟨ad, c', K, a, x, hx, hA, hbd, x0, x1, x2, hadl⟩ := HV.out.three hbw (by rw [HN.out]; exact hlt)
      obtain rfl : A = some ad := by injection hA
      have hkn : (k : Int) < (n : Int) := by omega
      have b0 := L.base.cell 0
      have b1 := L.base.cell 1
      rw [HBSV.out] at b0 b1
      simp only [List.getElem?_cons_zero, List.getElem?_cons_succ] at b0 b1
      have hbw1 := L.base.lt
      have hbw2 : w.heap.size ≠ wr.heap.size := by omega
      obtain ⟨wx, hwx⟩ : ∃ wx, wx = wr.alloc (.cells #[.int .i64 K, .int .i64 a, .int .i64 x] 77) := ⟨_, rfl⟩
      have LX : Hid (Lq17 w wx g bs G V E (.slice A1 n1 c1) (.slice A2 n2 c2) U P) := Lib.hid (by rw [hwx]; exact L.quiet (below_al _ _))
      have HOK := Lib.hid hOK
      have HSM := Lib.hid hSM
      have HLN := Lib.hid (And.intro hVN hE8)
      have HPT := Lib.hid hPT
      clear hx hA L hOK hSM hVN hE8 hPT hbw HI HV HN hbd
      by_cases hk1 : K = 1
      · rw [hk1] at x0 hwx
        clear hk1
        have KS := Lib.hid (recvS17 wx LX.out.kis)
        by_cases hE : recE17 G = 0
        · rw [hE] at KS
          have hps := pot17_rec hE
          have HI : Hid (∀ w6, KIs w6 (fun y => U y ∨ wx.heap.size ≤ y) g (recT17 G) → Only U wx w6 → Inv17 w w6 g bs G0 N 0 (.slice A1 n1 c1) (.slice A2 n2 c2)) := Lib.hid (fun w6 s6 o6 => ⟨_, _, _, _, _, ok17_rec HOK.out, HSM.out.trans (same17_rec _), HLN.out.1, HLN.out.2, fun _ => by have := hps.1; omega, LX.out.taker s6 o6⟩)
          clear hE hps LX HOK HSM HLN HPT
          go_wp2_with fail
          rw [← hwx]
          clear hwx
          refine KS.out.mono ?_
          rintro e w6 ⟨rfl, s6, o6⟩
          have I6 := Lib.hid (HI.out w6 s6 o6)
          clear s6 o6 KS
          go_wp2
          go_roundw
          case rel => exact ⟨k + 1, 0, _, _, _, _, _, _, by omega, by omega, by go_num, rfl, rfl, rfl, I6⟩
          case measure => simp [intOf]; omega
        · have hG : recT17 G = G := rec17_no hE
          have hEz : (recE17 G == 0) = false := by simpa using hE
          have HI : Hid (∀ w6, KIs w6 (fun y => U y ∨ wx.heap.size ≤ y) g (recT17 G) → Only U wx w6 → Inv17 w w6 g bs G0 N Z (.slice A1 n1 c1) (.slice A2 n2 c2)) := Lib.hid (fun w6 s6 o6 => ⟨_, _, _, _, _, HOK.out, HSM.out, HLN.out.1, HLN.out.2, HPT.out, LX.out.taker (by rw [← hG]; exact s6) o6⟩)
          clear hE hG LX HOK HSM HLN HPT
          go_wp2_with fail
          rw [← hwx]
          clear hwx
          refine KS.out.mono ?_
          rintro e w6 ⟨rfl, s6, o6⟩
          have I6 := Lib.hid (HI.out w6 s6 o6)
          clear s6 o6 KS
          go_wp2
          go_roundw
          case rel => exact ⟨k + 1, Z, _, _, _, _, _, _, by omega, by omega, by go_num, rfl, rfl, rfl, I6⟩
          case measure => simp [intOf]; omega

      · by_cases hk2 : K = 2
        · rw [hk2] at x0 hwx
          clear hk1 hk2
          have KS := Lib.hid (releaseS17 x wx LX.out.kis)
          by_cases hE : relE17 G x = 0
          · rw [hE] at KS
            have hps := pot17_rel hE
            have HI : Hid (∀ w6, KIs w6 (fun y => U y ∨ wx.heap.size ≤ y) g (relT17 G x) → Only U wx w6 → Inv17 w w6 g bs G0 N 0 (.slice A1 n1 c1) (.slice A2 n2 c2)) := Lib.hid (fun w6 s6 o6 => ⟨_, _, _, _, _, ok17_rel HOK.out x, HSM.out.trans (same17_rel _ x), HLN.out.1, HLN.out.2, fun _ => by have := hps.1; omega, LX.out.taker s6 o6⟩)
            clear hE hps LX HOK HSM HLN HPT
            go_wp2_with fail
            rw [← hwx]
            clear hwx
            refine KS.out.mono ?_
            rintro e w6 ⟨rfl, s6, o6⟩
            have I6 := Lib.hid (HI.out w6 s6 o6)
            clear s6 o6 KS
            go_wp2
            go_roundw
            case rel => exact ⟨k + 1, 0, _, _, _, _, _, _, by omega, by omega, by go_num, rfl, rfl, rfl, I6⟩
            case measure => simp [intOf]; omega
          · have hG : relT17 G x = G := rel17_no hE
            have hEz : (relE17 G x == 0) = false := by simpa using hE
            have HI : Hid (∀ w6, KIs w6 (fun y => U y ∨ wx.heap.size ≤ y) g (relT17 G x) → Only U wx w6 → Inv17 w w6 g bs G0 N Z (.slice A1 n1 c1) (.slice A2 n2 c2)) := Lib.hid (fun w6 s6 o6 => ⟨_, _, _, _, _, HOK.out, HSM.out, HLN.out.1, HLN.out.2, HPT.out, LX.out.taker (by rw [← hG]; exact s6) o6⟩)
            clear hE hG LX HOK HSM HLN HPT
            go_wp2_with fail
            rw [← hwx]
            clear hwx
            refine KS.out.mono ?_
            rintro e w6 ⟨rfl, s6, o6⟩
            have I6 := Lib.hid (HI.out w6 s6 o6)
            clear s6 o6 KS
            go_wp2
            go_roundw
            case rel => exact ⟨k + 1, Z, _, _, _, _, _, _, by omega, by omega, by go_num, rfl, rfl, rfl, I6⟩
            case measure => simp [intOf]; omega

        · by_cases hk3 : K = 3
          · rw [hk3] at x0 hwx
            clear hk1 hk2 hk3
            by_cases ha0 : 0 ≤ a
            · obtain ⟨rm, hrm, hr0, hr1⟩ : ∃ rm, a.tmod 100000 = rm ∧ 0 ≤ rm ∧ rm ≤ 99999 := by
                refine ⟨_, rfl, ?_⟩
                rw [Int.tmod_eq_emod_of_nonneg ha0]
                omega
              have hrw : wrap64 rm = rm := by rw [← IntWalk.i64_left, IntWalk.i64_in _ (by omega)]
              have hg0 : decide (0 ≤ a) = true := by simpa using ha0
              have KS := Lib.hid (set17_any P V (.slice A1 n1 c1) (B + rm) x wx LX.out.wld.words LX.out.wld.c1 (by have := HLN.out.1; omega))
              have HI : Hid (∀ w6 u, Below wx.heap.size wx w6 → w6.ownsRow wx.heap.size 3 1 u (put14 V (B + rm) x).length (ints (put14 V (B + rm) x)) → Inv17 w w6 g bs G0 N Z u (.slice A2 n2 c2)) := Lib.hid (fun w6 u b6 o6 => ⟨_, _, _, _, _, HOK.out, HSM.out, by rw [put14_len]; exact HLN.out.1, HLN.out.2, HPT.out, LX.out.setV b6 o6⟩)
              clear LX HOK HSM HLN HPT
              go_wp2_with fail
              rw [← hwx]
              clear hwx
              refine KS.out.mono ?_
              rintro e w6 ⟨u6, rfl, o6, b6⟩
              have I6 := Lib.hid (HI.out w6 u6 b6 o6)
              obtain ⟨A6, c6, rfl⟩ := own_open14 o6
              clear o6 b6 KS HI
              go_wp2
              go_roundw
              case rel => exact ⟨k + 1, Z, _, _, _, _, _, _, by omega, by omega, by go_num, rfl, rfl, rfl, I6⟩
              case measure => simp [intOf]; omega
            · have hg0 : decide (0 ≤ a) = false := by simpa using ha0
              have I6 : Hid (Inv17 w wx g bs G0 N Z (.slice A1 n1 c1) (.slice A2 n2 c2)) := Lib.hid ⟨_, _, _, _, _, HOK.out, HSM.out, HLN.out.1, HLN.out.2, HPT.out, LX.out⟩
              clear LX HOK HSM HLN HPT ha0
              go_wp2
              rw [← hwx]
              clear hwx
              go_roundw
              case rel => exact ⟨k + 1, Z, _, _, _, _, _, _, by omega, by omega, by go_num, rfl, rfl, rfl, I6⟩
              case measure => simp [intOf]; omega

          · by_cases hk4 : K = 4
            · rw [hk4] at x0 hwx
              clear hk1 hk2 hk3 hk4
              have KS := Lib.hid (set17_any P E (.slice A2 n2 c2) a x wx LX.out.wld.epochs LX.out.wld.c2 (by have := HLN.out.2; omega))
              have HI : Hid (∀ w6 u, Below wx.heap.size wx w6 → w6.ownsRow wx.heap.size 3 1 u (put14 E a x).length (ints (put14 E a x)) → Inv17 w w6 g bs G0 N Z (.slice A1 n1 c1) u) := Lib.hid (fun w6 u b6 o6 => ⟨_, _, _, _, _, HOK.out, HSM.out, HLN.out.1, by rw [put14_len]; exact HLN.out.2, HPT.out, LX.out.setE b6 o6⟩)
              clear LX HOK HSM HLN HPT
              go_wp2_with fail
              rw [← hwx]
              clear hwx
              refine KS.out.mono ?_
              rintro e w6 ⟨u6, rfl, o6, b6⟩
              have I6 := Lib.hid (HI.out w6 u6 b6 o6)
              obtain ⟨A6, c6, rfl⟩ := own_open14 o6
              clear o6 b6 KS HI
              go_wp2
              go_roundw
              case rel => exact ⟨k + 1, Z, _, _, _, _, _, _, by omega, by omega, by go_num, rfl, rfl, rfl, I6⟩
              case measure => simp [intOf]; omega

            · have g1 : (K == 1) = false := by simpa using hk1
              have g2 : (K == 2) = false := by simpa using hk2
              have g3 : (K == 3) = false := by simpa using hk3
              have g4 : (K == 4) = false := by simpa using hk4
              by_cases hst : G.st = 0
              ·
                have KB := Lib.hid (fun W (hb : Below wx.heap.size wx W) => by
                  obtain ⟨s, vl, vg, rg, _⟩ := LX.out.kis
                  exact busy17_any W (rg.below hb))
                have KO := Lib.hid (ofWords14_any P P V E (.slice A1 n1 c1) (.slice A2 n2 c2) wx LX.out.wld.words LX.out.wld.epochs (by have := HLN.out; omega) (by have := HLN.out; omega))
                rw [hst] at KB
                go_wp2_with fail
                rw [← hwx]
                clear hwx
                refine (KB.out wx (Below.refl _ _)).mono ?_
                rintro e w' ⟨rfl, rfl⟩
                go_wp2_with fail
                refine KO.out.mono ?_
                rintro e w4 ⟨p, aa, b, rfl, rp, ha, hp, b4⟩
                have hab := rp.ne
                have RP := Lib.hid rp
                have B4 := Lib.hid b4
                have HAB := Lib.hid (And.intro ha (And.intro hp hab))
                clear rp b4 ha hp hab KO
                unfold ptr
                go_wp2_with fail
                refine (traced14_any p w4).mono ?_
                rintro e w5 ⟨t, rfl, rt, ht, b5⟩
                have B5 := Lib.hid (below_on B4.out b5)
                have hpt := PtAt.mk (RP.out.below b5) rt
                have hnew : ∀ y, own14 t p aa (.slice none 0 0) (.slice none 0 0) y ∨ y = b → wx.heap.size ≤ y := fun y hy => by
                  have := B4.out.size
                  have := HAB.out
                  rcases hy with hy | rfl
                  · rcases hy with rfl | rfl | rfl | hy | hy
                    · omega
                    · omega
                    · omega
                    · cases hy
                    · cases hy
                  · omega
                have PT := Lib.hid hpt
                have HNEW := Lib.hid hnew
                clear rt ht b5 hpt hnew RP B4 HAB
                unfold ptr
                have KS := Lib.hid (step17_idle (tface14 t) w5 (LX.out.kis.below B5.out) hst)
                unfold tface14 at KS
                go_wp2_with fail
                refine KS.out.mono ?_
                rintro e w' ⟨rfl, rfl⟩
                go_wp2_with fail
                refine (words14_any w5 PT.out.plain).mono ?_
                rintro e w7 ⟨v7, rfl, own7, b7⟩
                have S5 := Lib.hid (sys17_of LX.out.kis B5.out PT.out HNEW.out)
                obtain ⟨l7, s7⟩ := LX.out.port B5.out (S5.out.weak (fun x _ h => .inl h)) (Only.refl _ w5) b7 own7
                have L7 := Lib.hid l7
                have S7 := Lib.hid s7
                rw [mod14_len, HLN.out.1] at own7
                obtain ⟨A7, c7, rfl⟩ := own_open14 own7
                have HOX := HOK
                have HSX := HSM
                have I7 : Hid (∀ W, Below w7.heap.size w7 W → Inv17 w W g bs G0 N (Z + 1) (.slice A7 N c7) (.slice A2 n2 c2)) := Lib.hid (fun W hb => ⟨_, _, _, _, _, HOK.out, HSM.out, by rw [mod14_len]; exact HLN.out.1, HLN.out.2, fun h => absurd hst h, L7.out.quiet hb⟩)
                have KG := Lib.hid (show Calls Tryd.prog 45 #[.pointer (some ⟨g, 0, none⟩)] w7 fun e w' => ∃ A c, e = .returned (.tuple #[.slice A (gotL17 G).length c, .int .i64 (G).gh]) ∧ Below w7.heap.size w7 w' from by
                  obtain ⟨s, vl, vg, a', b', k', v', rg, -, -, -, -⟩ := S7.out
                  refine (got17_any w7 rg (by have := HOX.out.gl; omega)).mono (fun e w' h => ?_)
                  obtain ⟨v, he, ho, hb⟩ := h
                  obtain ⟨A, c, rfl⟩ := own_open14 ho
                  exact ⟨A, c, he, hb⟩)
                have KH := Lib.hid (fun W (hb : Below w7.heap.size w7 W) => show Calls Tryd.prog 46 #[.pointer (some ⟨g, 0, none⟩)] W fun e w' => ∃ A c, e = .returned (.slice A (hs17 G).length c) ∧ Below w7.heap.size w7 w' from by
                  obtain ⟨s, vl, vg, a', b', k', v', rg, -, -, -, -⟩ := S7.out
                  refine (held17_any W (rg.below hb)).mono (fun e w' h => ?_)
                  obtain ⟨v, he, ho, hb'⟩ := h
                  obtain ⟨A, c, rfl⟩ := own_open14 ho
                  exact ⟨A, c, he, below_on hb hb'⟩)
                have KK := Lib.hid (fun W (hb : Below w7.heap.size w7 W) => show Calls Tryd.prog 36 #[.pointer (some ⟨p, 0, none⟩)] W fun e w' => ∃ A c, e = .returned (.slice A 0 c) ∧ Below w7.heap.size w7 w' from by
                  obtain ⟨s, vl, vg, a', b', k', v', -, rpt, -, -, -⟩ := S7.out
                  refine (kicks14_any W (rpt.plain.below hb) (by simp)).mono (fun e w' h => ?_)
                  obtain ⟨v, he, ho, hb'⟩ := h
                  obtain ⟨A, c, rfl⟩ := own_open14 ho
                  exact ⟨A, c, he, below_on hb hb'⟩)
                have HBS : Hid (∀ W, Below w7.heap.size w7 W → W.cell? ⟨w.heap.size, 0, none⟩ = some (.int .i64 B) ∧ W.cell? ⟨w.heap.size, 1, none⟩ = some (.int .i64 (G0.R : Int)) ∧ W.cell? ⟨w.heap.size, 2, none⟩ = some (.int .i64 self) ∧ W.cell? ⟨w.heap.size, 3, none⟩ = some (.int .i64 peer) ∧ W.cell? ⟨w.heap.size, 4, none⟩ = some (.int .i64 own)) := Lib.hid (fun W hb => by
                  have r := L7.out.base.below hb
                  have a0 := r.cell 0
                  have a1 := r.cell 1
                  have a2 := r.cell 2
                  have a3 := r.cell 3
                  have a4 := r.cell 4
                  rw [HBSV.out] at a0 a1 a2 a3 a4
                  exact ⟨a0, a1, a2, a3, a4⟩)
                obtain ⟨mg, hmg⟩ : ∃ mg, (gotL17 G).length = mg := ⟨_, rfl⟩
                obtain ⟨mh, hmh⟩ : ∃ mh, (hs17 G).length = mh := ⟨_, rfl⟩
                obtain ⟨gh, hgh⟩ : ∃ gh, (G).gh = gh := ⟨_, rfl⟩
                have hmg8 : mg ≤ 8 := by
                  rw [← hmg]
                  unfold gotL17
                  split
                  · simp
                  · exact HOX.out.gl
                have hmhR : mh ≤ G0.R := by rw [← hmh, ← HSX.out.1]; exact HOX.out.hs
                have g28a : decide ((8 : Int) < (mg : Int)) = false := by simp; omega
                have g28b : decide ((G0.R : Int) < (mh : Int)) = false := by simp; omega
                have g28c : decide (8 < mg) = false := by simp; omega
                have g28d : decide (G0.R < mh) = false := by simp; omega
                rw [hmg, hgh] at KG
                rw [hmh] at KH
                clear hmg hmh hgh hmg8 hmhR
                have KT := Lib.hid (fun W (hb : Below w7.heap.size w7 W) => show Calls Tryd.prog 24 #[.pointer (some ⟨t, 0, none⟩)] W fun e w' => ∃ A c, e = .returned (.slice A 0 c) ∧ Below w7.heap.size w7 w' from by
                  obtain ⟨s, vl, vg, a', b', k', v', -, rpt, -, -, -⟩ := S7.out
                  refine (touches14_any W (rpt.trace.below hb) (by simp)).mono (fun e w' h => ?_)
                  obtain ⟨v, he, ho, hb'⟩ := h
                  obtain ⟨A, c, rfl⟩ := own_open14 ho
                  exact ⟨A, c, he, below_on hb hb'⟩)
                clear own7 b7 l7 s7 S5 KS hst LX HOK HSM HLN HPT L7 S7 PT HNEW HOX HSX
                go_wp2_with fail
                refine KG.out.mono ?_
                rintro e w8 ⟨A8, c8, rfl, b8⟩
                clear KG
                go_wp2
                have hD0 : Below w7.heap.size w7 w8.drew := b8.drew
                have hS0 := (HBS.out _ hD0).2.1
                generalize hQ : w.heap.size = Q at *
                go_region_held3 (fun W => W.cell? ⟨Q, 1, none⟩ = some (.int .i64 (G0.R : Int)))
                  (first | exact hS0 | exact hSH | exact hSK | go_keep)
                  (first
                    | (go_at_call 46; refine (KH.out _ (by first | assumption)).mono ?_; rintro e wH ⟨AH, cH, rfl, bH⟩; have hSH := (HBS.out _ bH).2.1)
                    | (go_at_call 36; refine (KK.out _ (by first | assumption)).mono ?_; rintro e wK ⟨AK, cK, rfl, bK⟩; have hSK := (HBS.out _ bK).2.1))
                subst hQ
                clear KH KK
                all_goals
                  go_wp2_with fail
                  refine (KT.out _ (by first | assumption)).mono ?_
                  rintro e w9 ⟨A9, c9, rfl, b9⟩
                  have I9 := Lib.hid (I7.out w9 b9)
                  clear b9
                  go_wp2
                  go_roundw
                  case rel => exact ⟨k + 1, Z + 1, _, _, _, _, _, _, by omega, by omega, by go_num, by go_num, rfl, rfl, I9⟩
                  case measure => simp [intOf]; omega

              ·
                have KB := Lib.hid (fun W (hb : Below wx.heap.size wx W) => by
                  obtain ⟨s, vl, vg, rg, _⟩ := LX.out.kis
                  exact busy17_any W (rg.below hb))
                have KO := Lib.hid (ofWords14_any P P V E (.slice A1 n1 c1) (.slice A2 n2 c2) wx LX.out.wld.words LX.out.wld.epochs (by have := HLN.out; omega) (by have := HLN.out; omega))
                have e0 : ((G.st : Int) != 0) = true := by simp; omega
                rw [e0] at KB
                go_wp2_with fail
                rw [← hwx]
                clear hwx
                refine (KB.out wx (Below.refl _ _)).mono ?_
                rintro e w' ⟨rfl, rfl⟩
                go_wp2_with fail
                refine KO.out.mono ?_
                rintro e w4 ⟨p, aa, b, rfl, rp, ha, hp, b4⟩
                have hab := rp.ne
                have RP := Lib.hid rp
                have B4 := Lib.hid b4
                have HAB := Lib.hid (And.intro ha (And.intro hp hab))
                clear rp b4 ha hp hab KO
                unfold ptr
                go_wp2_with fail
                refine (traced14_any p w4).mono ?_
                rintro e w5 ⟨t, rfl, rt, ht, b5⟩
                have B5 := Lib.hid (below_on B4.out b5)
                have hpt := PtAt.mk (RP.out.below b5) rt
                have hnew : ∀ y, own14 t p aa (.slice none 0 0) (.slice none 0 0) y ∨ y = b → wx.heap.size ≤ y := fun y hy => by
                  have := B4.out.size
                  have := HAB.out
                  rcases hy with hy | rfl
                  · rcases hy with rfl | rfl | rfl | hy | hy
                    · omega
                    · omega
                    · omega
                    · cases hy
                    · cases hy
                  · omega
                have PT := Lib.hid hpt
                have HNEW := Lib.hid hnew
                clear rt ht b5 hpt hnew RP B4 HAB
                unfold ptr
                have HT5 := HT.out w5 (LX.out.below.trans (B5.out.mono LX.out.below.size))
                obtain ⟨xT, hxT, hmay⟩ := mayT17 HOK.out hst (mod14 V) (mod14 E)
                have hpot := pot17_aft HOK.out hst (rn17 (mod14 E) ⟨G, mod14 V, [], []⟩)
                have S5 := Lib.hid (sys17_of LX.out.kis B5.out PT.out HNEW.out)
                have KS := Lib.hid (stT17 (⟨G, mod14 V, [], []⟩ : Run17) w5 S5.out HOK.out hst HT5 (by simp))
                obtain ⟨S2, hS2⟩ : ∃ S2, rs17 (mod14 E) ⟨G, mod14 V, [], []⟩ = S2 := ⟨_, rfl⟩
                have hT2 : S2.T = [xT] := by rw [← hS2]; show [] ++ aT17 (mod14 V) (mod14 E) (tch17 G) = [xT]; rw [hxT]; rfl
                have hV2 : S2.V.length = N := by rw [← hS2]; show (dV14 (mod14 V) _ _ _).length = N; rw [dV14_len, mod14_len]; exact HLN.out.1
                have hK2 : S2.K = [] := by rw [← hS2]; exact kicks17 [] G
                have hG2 : (aft17 G (rn17 (mod14 E) ⟨G, mod14 V, [], []⟩)).1 = S2.G := by rw [← hS2]; rfl
                have hO2 : Ok17 S2.G := by rw [← hG2]; exact ok17_aft HOK.out _
                have hM2 : Same17 G0 S2.G := by rw [← hG2]; exact HSM.out.trans (same17_aft _ _)
                have hA2 : (aft17 G (rn17 (mod14 E) ⟨G, mod14 V, [], []⟩)).2 = ra17 (mod14 E) ⟨G, mod14 V, [], []⟩ := rfl
                rw [hG2, hA2] at hpot
                rw [hS2] at KS
                have hpt := HPT.out hst
                cases hans : ra17 (mod14 E) ⟨G, mod14 V, [], []⟩ with
                | none =>
                  rw [hans] at KS hpot
                  unfold ansV17 tface14 at KS
                  have hb2 : S2.G.st ≠ 0 ∧ Z + 1 + pot17 S2.G ≤ 14 ∧ Z + 1 < 15 := by have h1 := hpot.2.1 rfl; have h2 := hpot.1; exact ⟨h1.2, by omega, by omega⟩
                  have HB2 := Lib.hid hb2
                  have HT2 := Lib.hid hT2
                  have HV2 := Lib.hid hV2
                  have HK2 := Lib.hid hK2
                  have HOX := Lib.hid hO2
                  have HSX := Lib.hid hM2
                  have HMAY := Lib.hid hmay
                  clear hpot hxT hS2 hT2 hV2 hK2 hG2 hO2 hM2 hA2 hpt hans hmay hb2 HT5 e0 hst
                  go_wp2_with fail
                  refine KS.out.mono ?_
                  rintro e w6 ⟨rfl, s6, o6⟩
                  obtain ⟨s', vl, vg, a', b', k', v', rg, rpt, hd, hu1, hu2⟩ := id s6
                  have KW := Lib.hid (words14_any w6 rpt.plain)
                  have S6 := Lib.hid s6
                  have O6 := Lib.hid o6
                  clear s6 o6 KS rg rpt hd hu1 hu2
                  go_wp2_with fail
                  refine KW.out.mono ?_
                  rintro e w7 ⟨v7, rfl, own7, b7⟩
                  obtain ⟨l7, s7⟩ := LX.out.port B5.out S6.out O6.out b7 own7
                  rw [HK2.out, HT2.out] at s7
                  rw [HV2.out] at own7
                  obtain ⟨A7, c7, rfl⟩ := own_open14 own7
                  have L7 := Lib.hid l7
                  have S7 := Lib.hid s7
                  have I7 : Hid (∀ W, Below w7.heap.size w7 W → Inv17 w W g bs G0 N (Z + 1) (.slice A7 N c7) (.slice A2 n2 c2)) := Lib.hid (fun W hb => ⟨_, _, _, _, _, HOX.out, HSX.out, HV2.out, HLN.out.2, fun _ => HB2.out.2.1, L7.out.quiet hb⟩)
                  have KG := Lib.hid (show Calls Tryd.prog 45 #[.pointer (some ⟨g, 0, none⟩)] w7 fun e w' => ∃ A c, e = .returned (.tuple #[.slice A (gotL17 S2.G).length c, .int .i64 (S2.G).gh]) ∧ Below w7.heap.size w7 w' from by
                    obtain ⟨s, vl, vg, a', b', k', v', rg, -, -, -, -⟩ := S7.out
                    refine (got17_any w7 rg (by have := HOX.out.gl; omega)).mono (fun e w' h => ?_)
                    obtain ⟨v, he, ho, hb⟩ := h
                    obtain ⟨A, c, rfl⟩ := own_open14 ho
                    exact ⟨A, c, he, hb⟩)
                  have KH := Lib.hid (fun W (hb : Below w7.heap.size w7 W) => show Calls Tryd.prog 46 #[.pointer (some ⟨g, 0, none⟩)] W fun e w' => ∃ A c, e = .returned (.slice A (hs17 S2.G).length c) ∧ Below w7.heap.size w7 w' from by
                    obtain ⟨s, vl, vg, a', b', k', v', rg, -, -, -, -⟩ := S7.out
                    refine (held17_any W (rg.below hb)).mono (fun e w' h => ?_)
                    obtain ⟨v, he, ho, hb'⟩ := h
                    obtain ⟨A, c, rfl⟩ := own_open14 ho
                    exact ⟨A, c, he, below_on hb hb'⟩)
                  have KK := Lib.hid (fun W (hb : Below w7.heap.size w7 W) => show Calls Tryd.prog 36 #[.pointer (some ⟨p, 0, none⟩)] W fun e w' => ∃ A c, e = .returned (.slice A 0 c) ∧ Below w7.heap.size w7 w' from by
                    obtain ⟨s, vl, vg, a', b', k', v', -, rpt, -, -, -⟩ := S7.out
                    refine (kicks14_any W (rpt.plain.below hb) (by simp)).mono (fun e w' h => ?_)
                    obtain ⟨v, he, ho, hb'⟩ := h
                    obtain ⟨A, c, rfl⟩ := own_open14 ho
                    exact ⟨A, c, he, below_on hb hb'⟩)
                  have HBS : Hid (∀ W, Below w7.heap.size w7 W → W.cell? ⟨w.heap.size, 0, none⟩ = some (.int .i64 B) ∧ W.cell? ⟨w.heap.size, 1, none⟩ = some (.int .i64 (G0.R : Int)) ∧ W.cell? ⟨w.heap.size, 2, none⟩ = some (.int .i64 self) ∧ W.cell? ⟨w.heap.size, 3, none⟩ = some (.int .i64 peer) ∧ W.cell? ⟨w.heap.size, 4, none⟩ = some (.int .i64 own)) := Lib.hid (fun W hb => by
                    have r := L7.out.base.below hb
                    have a0 := r.cell 0
                    have a1 := r.cell 1
                    have a2 := r.cell 2
                    have a3 := r.cell 3
                    have a4 := r.cell 4
                    rw [HBSV.out] at a0 a1 a2 a3 a4
                    exact ⟨a0, a1, a2, a3, a4⟩)
                  obtain ⟨mg, hmg⟩ : ∃ mg, (gotL17 S2.G).length = mg := ⟨_, rfl⟩
                  obtain ⟨mh, hmh⟩ : ∃ mh, (hs17 S2.G).length = mh := ⟨_, rfl⟩
                  obtain ⟨gh, hgh⟩ : ∃ gh, (S2.G).gh = gh := ⟨_, rfl⟩
                  have hmg8 : mg ≤ 8 := by
                    rw [← hmg]
                    unfold gotL17
                    split
                    · simp
                    · exact HOX.out.gl
                  have hmhR : mh ≤ G0.R := by rw [← hmh, ← HSX.out.1]; exact HOX.out.hs
                  have g28a : decide ((8 : Int) < (mg : Int)) = false := by simp; omega
                  have g28b : decide ((G0.R : Int) < (mh : Int)) = false := by simp; omega
                  have g28c : decide (8 < mg) = false := by simp; omega
                  have g28d : decide (G0.R < mh) = false := by simp; omega
                  rw [hmg, hgh] at KG
                  rw [hmh] at KH
                  clear hmg hmh hgh hmg8 hmhR
                  have KT := Lib.hid (fun W (hb : Below w7.heap.size w7 W) => show Calls Tryd.prog 24 #[.pointer (some ⟨t, 0, none⟩)] W fun e w' => ∃ gT cT, e = .returned (.slice (some ⟨gT, 0, none⟩) 1 cT) ∧ w'.cell? ⟨gT, 0, none⟩ = some (.int .i64 xT.1) ∧ w'.cell? ⟨gT, 1, none⟩ = some (.int .i64 xT.2.1) ∧ w'.cell? ⟨gT, 2, none⟩ = some (.int .i64 xT.2.2) ∧ Below w7.heap.size w7 w' from by
                    obtain ⟨s, vl, vg, a', b', k', v', -, rpt, -, -, -⟩ := S7.out
                    refine (touches14_any W (rpt.trace.below hb) (by simp)).mono (fun e w' h => ?_)
                    obtain ⟨v, he, ho, hb'⟩ := h
                    obtain ⟨gT, cT, rfl, _, _⟩ := ho.form (by simp)
                    exact ⟨gT, cT, he, (ho.cellAt 0 (by exact (by decide : 0 < 3))).trans rfl, (ho.cellAt 1 (by exact (by decide : 1 < 3))).trans rfl, (ho.cellAt 2 (by exact (by decide : 2 < 3))).trans rfl, below_on hb hb'⟩)
                  have KBU := Lib.hid (fun W (hb : Below w7.heap.size w7 W) => show Calls Tryd.prog 43 #[.pointer (some ⟨g, 0, none⟩)] W fun e w' => e = .returned (.bool true) ∧ Below w7.heap.size w7 w' from by
                    obtain ⟨s, vl, vg, a', b', k', v', rg, -, -, -, -⟩ := S7.out
                    refine (busy17_any W (rg.below hb)).mono (fun e w' h => ⟨by rw [h.1]; simp [HB2.out.1], by rw [← h.2]; exact hb⟩))
                  have KMY := Lib.hid (fun W (hb : Below w7.heap.size w7 W) => (may17_any B self peer own G0.R xT W (by rw [← HSX.out.1]; exact HOX.out.R) (by rw [← HG0.out.1, ← HSX.out.2.1]; exact HOX.out.B) (by have := HMAY.out; rw [HSM.out.1, HSM.out.2.1, HSM.out.2.2.1, HG0.out.1, HG0.out.2] at this; exact this)).mono (R' := fun e w' => e = .returned (.bool true) ∧ Below w7.heap.size w7 w') (fun e w' ⟨he, hb'⟩ => ⟨he, below_on hb hb'⟩))
                  unfold baseV17 at KMY
                  have hzb : ¬ ((15 : Int) ≤ (Z : Int) + 1) := by have := HB2.out.2.2; omega
                  clear own7 b7 l7 s7 KW S6 LX HOK HSM HLN HPT S5 PT HNEW O6 L7 S7 HOX HSX
                  go_wp2_with fail
                  refine KG.out.mono ?_
                  rintro e w8 ⟨A8, c8, rfl, b8⟩
                  clear KG
                  go_wp2
                  have hD0 : Below w7.heap.size w7 w8.drew := b8.drew
                  have hS0 := (HBS.out _ hD0).2.1
                  generalize hQ : w.heap.size = Q at *
                  go_region_held3 (fun W => W.cell? ⟨Q, 1, none⟩ = some (.int .i64 (G0.R : Int)))
                    (first | exact hS0 | exact hSH | exact hSK | go_keep)
                    (first
                      | (go_at_call 46; refine (KH.out _ (by first | assumption)).mono ?_; rintro e wH ⟨AH, cH, rfl, bH⟩; have hSH := (HBS.out _ bH).2.1)
                      | (go_at_call 36; refine (KK.out _ (by first | assumption)).mono ?_; rintro e wK ⟨AK, cK, rfl, bK⟩; have hSK := (HBS.out _ bK).2.1))
                  subst hQ
                  clear KH KK
                  go_wp2
                  have hD1 : Below w7.heap.size w7 wK.drew := bK.drew
                  have hS1 := HBS.out _ hD1
                  generalize hQ : w.heap.size = Q at *
                  refine wp_region_held_drew (S := fun W => W.cell? ⟨Q, 0, none⟩ = some (.int .i64 B) ∧ W.cell? ⟨Q, 1, none⟩ = some (.int .i64 (G0.R : Int)) ∧ W.cell? ⟨Q, 2, none⟩ = some (.int .i64 self) ∧ W.cell? ⟨Q, 3, none⟩ = some (.int .i64 peer) ∧ W.cell? ⟨Q, 4, none⟩ = some (.int .i64 own)) (by kernel_rfl) hS1 (fun hHeld => ?_)
                  refine' wpAnyH_take (i := 0) (oi := { dst := some 139, op := Go.Op.move (Go.Operand.tmp 13), type := 56, pos := "law.go:163", after := #[], guard := none }) (v := _) rfl (by kernel_rfl) (by kernel_rfl) (by kernel_rfl) (fun _ _ _ h => h) (Or.inl ⟨by rfl, ?hyn0⟩) (by assumption) ?restn0
                  case hyn0 => (intro w hSw; (try dsimp only at hSw); go_simp; try with_reducible rfl)
                  try simp only [Act.put, List.setIfInBounds_toArray, List.set_cons_zero, List.set_cons_succ]
                  refine wpAnyH_ready (rs := [1]) (by kernel_rfl) (by simp) ?_
                  refine AllReadyH.cons (o := { dst := some 140, op := Go.Op.call { callee := Go.Callee.value (Go.Operand.func 24), args := #[Go.Operand.tmp 139], argTypes := #[56] }, type := 60, pos := "law.go:163", after := #[{ on := 0, ground := Go.Ground.data }], guard := none }) rfl (fun K hK => ?_) AllReadyH.nil
                  go_simp
                  refine (KT.out _ (by first | assumption)).mono ?_
                  rintro e wT ⟨gT, cT, rfl, t0, t1, t2, bT⟩
                  have hST := HBS.out _ bT
                  go_wp2_with fail
                  refine hK.out _ _ hST (fun _ => ?_)
                  clear hK K
                  try simp only [Act.put, List.setIfInBounds_toArray, List.set_cons_zero, List.set_cons_succ]
                  refine' wpAnyH_take (i := 2) (oi := { dst := some 141, op := Go.Op.call { callee := Go.Callee.builtin Go.Builtin.len, args := #[Go.Operand.tmp 140], argTypes := #[60] }, type := 3, pos := "law.go:163", after := #[{ on := 1, ground := Go.Ground.data }], guard := none }) (v := _) rfl (by kernel_rfl) (by kernel_rfl) (by kernel_rfl) (fun _ _ _ h => h) (Or.inl ⟨by rfl, ?hyn2⟩) (by assumption) ?restn2
                  case hyn2 => (intro w hSw; (try dsimp only at hSw); go_simp; try with_reducible rfl)
                  try simp only [Act.put, List.setIfInBounds_toArray, List.set_cons_zero, List.set_cons_succ]
                  refine' wpAnyH_take (i := 3) (oi := { dst := some 142, op := Go.Op.binOp Go.BinOp.neq 3 (Go.Operand.tmp 141) (Go.Operand.const (Go.Value.int Go.IntKind.i64 1)) 3, type := 4, pos := "law.go:163", after := #[{ on := 2, ground := Go.Ground.data }], guard := none }) (v := _) rfl (by kernel_rfl) (by kernel_rfl) (by kernel_rfl) (fun _ _ _ h => h) (Or.inl ⟨by rfl, ?hyn3⟩) (by assumption) ?restn3
                  case hyn3 => (intro w hSw; (try dsimp only at hSw); go_simp; try with_reducible rfl)
                  try simp only [Act.put, List.setIfInBounds_toArray, List.set_cons_zero, List.set_cons_succ]
                  refine' wpAnyH_take (i := 4) (oi := { dst := some 143, op := Go.Op.move (Go.Operand.tmp 142), type := 4, pos := "law.go:163", after := #[{ on := 3, ground := Go.Ground.data }, { on := 1, ground := Go.Ground.chain }], guard := none }) (v := _) rfl (by kernel_rfl) (by kernel_rfl) (by kernel_rfl) (fun _ _ _ h => h) (Or.inl ⟨by rfl, ?hyn4⟩) (by assumption) ?restn4
                  case hyn4 => (intro w hSw; (try dsimp only at hSw); go_simp; try with_reducible rfl)
                  try simp only [Act.put, List.setIfInBounds_toArray, List.set_cons_zero, List.set_cons_succ]
                  refine' wpAnyH_take (i := 5) (oi := { dst := some 144, op := Go.Op.load 25 (Go.Operand.tmp 2), type := 25, pos := "law.go:163", after := #[{ on := 4, ground := Go.Ground.guard }], guard := some (4, false) }) (v := _) rfl (by kernel_rfl) (by kernel_rfl) (by kernel_rfl) (fun _ _ _ h => h) (Or.inl ⟨by rfl, ?hyn5⟩) (by assumption) ?restn5
                  case hyn5 => (intro w hSw; (try dsimp only at hSw); go_simp; try with_reducible rfl)
                  try simp only [Act.put, List.setIfInBounds_toArray, List.set_cons_zero, List.set_cons_succ]
                  refine' wpAnyH_take (i := 6) (oi := { dst := some 145, op := Go.Op.move (Go.Operand.tmp 13), type := 56, pos := "law.go:163", after := #[{ on := 4, ground := Go.Ground.guard }], guard := some (4, false) }) (v := _) rfl (by kernel_rfl) (by kernel_rfl) (by kernel_rfl) (fun _ _ _ h => h) (Or.inl ⟨by rfl, ?hyn6⟩) (by assumption) ?restn6
                  case hyn6 => (intro w hSw; (try dsimp only at hSw); go_simp; try with_reducible rfl)
                  try simp only [Act.put, List.setIfInBounds_toArray, List.set_cons_zero, List.set_cons_succ]
                  refine wpAnyH_ready (rs := [7]) (by kernel_rfl) (by simp) ?_
                  refine AllReadyH.cons (o := { dst := some 146, op := Go.Op.call { callee := Go.Callee.value (Go.Operand.func 24), args := #[Go.Operand.tmp 145], argTypes := #[56] }, type := 60, pos := "law.go:163", after := #[{ on := 6, ground := Go.Ground.data }, { on := 4, ground := Go.Ground.chain }, { on := 4, ground := Go.Ground.guard }], guard := some (4, false) }) rfl (fun K hK => ?_) AllReadyH.nil
                  go_simp
                  refine (KT.out _ (by first | assumption)).mono ?_
                  rintro e wT ⟨gT, cT, rfl, t0, t1, t2, bT⟩
                  have hST := HBS.out _ bT
                  go_wp2_with fail
                  refine hK.out _ _ hST (fun _ => ?_)
                  clear hK K
                  try simp only [Act.put, List.setIfInBounds_toArray, List.set_cons_zero, List.set_cons_succ]
                  refine' wpAnyH_take (i := 8) (oi := { dst := some 147, op := Go.Op.indexAddr 60 (Go.Operand.tmp 146) (Go.Operand.const (Go.Value.int Go.IntKind.i64 0)), type := 0, pos := "law.go:163", after := #[{ on := 7, ground := Go.Ground.data }, { on := 4, ground := Go.Ground.guard }], guard := some (4, false) }) (v := _) rfl (by kernel_rfl) (by kernel_rfl) (by kernel_rfl) (fun _ _ _ h => h) (Or.inl ⟨by rfl, ?hyn8⟩) (by assumption) ?restn8
                  case hyn8 => (intro w hSw; (try dsimp only at hSw); go_simp; try with_reducible rfl)
                  try simp only [Act.put, List.setIfInBounds_toArray, List.set_cons_zero, List.set_cons_succ]
                  refine wpAnyH_ready (rs := [9]) (by kernel_rfl) (by simp) ?_
                  refine AllReadyH.cons (o := { dst := some 148, op := Go.Op.load 64 (Go.Operand.tmp 147), type := 64, pos := "law.go:163", after := #[{ on := 8, ground := Go.Ground.data }, { on := 4, ground := Go.Ground.guard }], guard := some (4, false) }) rfl (fun K hK => ?_) AllReadyH.nil
                  go_simp
                  refine hK.out _ _ (by assumption) (fun _ => ?_)
                  clear hK K
                  try simp only [Act.put, List.setIfInBounds_toArray, List.set_cons_zero, List.set_cons_succ]
                  refine wpAnyH_ready (rs := [10]) (by kernel_rfl) (by simp) ?_
                  refine AllReadyH.cons (o := { dst := some 149, op := Go.Op.call { callee := Go.Callee.value (Go.Operand.func 47), args := #[Go.Operand.tmp 144, Go.Operand.tmp 148], argTypes := #[25, 64] }, type := 4, pos := "law.go:163", after := #[{ on := 5, ground := Go.Ground.data }, { on := 9, ground := Go.Ground.data }, { on := 7, ground := Go.Ground.chain }, { on := 4, ground := Go.Ground.guard }], guard := some (4, false) }) rfl (fun K hK => ?_) AllReadyH.nil
                  go_simp
                  refine (KMY.out _ (by first | assumption)).mono ?_
                  rintro e wM ⟨rfl, bM⟩
                  have hSM := HBS.out _ bM
                  go_wp2_with fail
                  refine hK.out _ _ hSM (fun _ => ?_)
                  clear hK K
                  try simp only [Act.put, List.setIfInBounds_toArray, List.set_cons_zero, List.set_cons_succ]
                  refine' wpAnyH_take (i := 11) (oi := { dst := some 150, op := Go.Op.unOp Go.UnOp.not 4 (Go.Operand.tmp 149), type := 4, pos := "law.go:163", after := #[{ on := 10, ground := Go.Ground.data }, { on := 4, ground := Go.Ground.guard }], guard := some (4, false) }) (v := _) rfl (by kernel_rfl) (by kernel_rfl) (by kernel_rfl) (fun _ _ _ h => h) (Or.inl ⟨by rfl, ?hyn11⟩) (by assumption) ?restn11
                  case hyn11 => (intro w hSw; (try dsimp only at hSw); go_simp; try with_reducible rfl)
                  try simp only [Act.put, List.setIfInBounds_toArray, List.set_cons_zero, List.set_cons_succ]
                  refine' wpAnyH_take (i := 12) (oi := { dst := some 151, op := Go.Op.pick (Go.Operand.tmp 143) (Go.Operand.const (Go.Value.bool true)) (Go.Operand.tmp 150), type := 4, pos := "law.go:163", after := #[{ on := 4, ground := Go.Ground.data }, { on := 11, ground := Go.Ground.data }], guard := none }) (v := _) rfl (by kernel_rfl) (by kernel_rfl) (by kernel_rfl) (fun _ _ _ h => h) (Or.inl ⟨by rfl, ?hyn12⟩) (by assumption) ?restn12
                  case hyn12 => (intro w hSw; (try dsimp only at hSw); go_simp; try with_reducible rfl)
                  try simp only [Act.put, List.setIfInBounds_toArray, List.set_cons_zero, List.set_cons_succ]
                  refine' wpAnyH_take (i := 13) (oi := { dst := some 152, op := Go.Op.move (Go.Operand.tmp 151), type := 4, pos := "law.go:163", after := #[{ on := 12, ground := Go.Ground.data }, { on := 10, ground := Go.Ground.chain }], guard := none }) (v := _) rfl (by kernel_rfl) (by kernel_rfl) (by kernel_rfl) (fun _ _ _ h => h) (Or.inl ⟨by rfl, ?hyn13⟩) (by assumption) ?restn13
                  case hyn13 => (intro w hSw; (try dsimp only at hSw); go_simp; try with_reducible rfl)
                  try simp only [Act.put, List.setIfInBounds_toArray, List.set_cons_zero, List.set_cons_succ]
                  refine' wpAnyH_take (i := 14) (oi := { dst := some 153, op := Go.Op.move (Go.Operand.tmp 14), type := 4, pos := "law.go:163", after := #[{ on := 13, ground := Go.Ground.guard }], guard := some (13, false) }) (v := _) rfl (by kernel_rfl) (by kernel_rfl) (by kernel_rfl) (fun _ _ _ h => h) (Or.inl ⟨by rfl, ?hyn14⟩) (by assumption) ?restn14
                  case hyn14 => (intro w hSw; (try dsimp only at hSw); go_simp; try with_reducible rfl)
                  try simp only [Act.put, List.setIfInBounds_toArray, List.set_cons_zero, List.set_cons_succ]
                  refine' wpAnyH_take (i := 15) (oi := { dst := some 154, op := Go.Op.move (Go.Operand.tmp 5), type := 73, pos := "law.go:163", after := #[{ on := 13, ground := Go.Ground.guard }], guard := some (13, false) }) (v := _) rfl (by kernel_rfl) (by kernel_rfl) (by kernel_rfl) (fun _ _ _ h => h) (Or.inl ⟨by rfl, ?hyn15⟩) (by assumption) ?restn15
                  case hyn15 => (intro w hSw; (try dsimp only at hSw); go_simp; try with_reducible rfl)
                  try simp only [Act.put, List.setIfInBounds_toArray, List.set_cons_zero, List.set_cons_succ]
                  refine wpAnyH_ready (rs := [16]) (by kernel_rfl) (by simp) ?_
                  refine AllReadyH.cons (o := { dst := some 155, op := Go.Op.call { callee := Go.Callee.value (Go.Operand.func 43), args := #[Go.Operand.tmp 154], argTypes := #[73] }, type := 4, pos := "law.go:163", after := #[{ on := 15, ground := Go.Ground.data }, { on := 13, ground := Go.Ground.chain }, { on := 13, ground := Go.Ground.guard }], guard := some (13, false) }) rfl (fun K hK => ?_) AllReadyH.nil
                  go_simp
                  refine (KBU.out _ (by first | assumption)).mono ?_
                  rintro e wB ⟨rfl, bB⟩
                  have hSB := HBS.out _ bB
                  go_wp2_with fail
                  refine hK.out _ _ hSB (fun _ => ?_)
                  clear hK K
                  try simp only [Act.put, List.setIfInBounds_toArray, List.set_cons_zero, List.set_cons_succ]
                  refine' wpAnyH_take (i := 17) (oi := { dst := some 156, op := Go.Op.binOp Go.BinOp.eql 4 (Go.Operand.tmp 153) (Go.Operand.tmp 155) 4, type := 4, pos := "law.go:163", after := #[{ on := 14, ground := Go.Ground.data }, { on := 16, ground := Go.Ground.data }, { on := 13, ground := Go.Ground.guard }], guard := some (13, false) }) (v := _) rfl (by kernel_rfl) (by kernel_rfl) (by kernel_rfl) (fun _ _ _ h => h) (Or.inl ⟨by rfl, ?hyn17⟩) (by assumption) ?restn17
                  case hyn17 => (intro w hSw; (try dsimp only at hSw); go_simp; try with_reducible rfl)
                  try simp only [Act.put, List.setIfInBounds_toArray, List.set_cons_zero, List.set_cons_succ]
                  refine' wpAnyH_take (i := 18) (oi := { dst := some 157, op := Go.Op.pick (Go.Operand.tmp 152) (Go.Operand.const (Go.Value.bool true)) (Go.Operand.tmp 156), type := 4, pos := "law.go:163", after := #[{ on := 13, ground := Go.Ground.data }, { on := 17, ground := Go.Ground.data }], guard := none }) (v := _) rfl (by kernel_rfl) (by kernel_rfl) (by kernel_rfl) (fun _ _ _ h => h) (Or.inl ⟨by rfl, ?hyn18⟩) (by assumption) ?restn18
                  case hyn18 => (intro w hSw; (try dsimp only at hSw); go_simp; try with_reducible rfl)
                  try simp only [Act.put, List.setIfInBounds_toArray, List.set_cons_zero, List.set_cons_succ]
                  refine' wpAnyH_take (i := 19) (oi := { dst := some 158, op := Go.Op.move (Go.Operand.tmp 157), type := 4, pos := "law.go:163", after := #[{ on := 18, ground := Go.Ground.data }, { on := 16, ground := Go.Ground.chain }], guard := none }) (v := _) rfl (by kernel_rfl) (by kernel_rfl) (by kernel_rfl) (fun _ _ _ h => h) (Or.inl ⟨by rfl, ?hyn19⟩) (by assumption) ?restn19
                  case hyn19 => (intro w hSw; (try dsimp only at hSw); go_simp; try with_reducible rfl)
                  try simp only [Act.put, List.setIfInBounds_toArray, List.set_cons_zero, List.set_cons_succ]
                  refine' wpAnyH_take (i := 20) (oi := { dst := some 159, op := Go.Op.move (Go.Operand.tmp 14), type := 4, pos := "law.go:163", after := #[{ on := 19, ground := Go.Ground.guard }], guard := some (19, false) }) (v := _) rfl (by kernel_rfl) (by kernel_rfl) (by kernel_rfl) (fun _ _ _ h => h) (Or.inl ⟨by rfl, ?hyn20⟩) (by assumption) ?restn20
                  case hyn20 => (intro w hSw; (try dsimp only at hSw); go_simp; try with_reducible rfl)
                  try simp only [Act.put, List.setIfInBounds_toArray, List.set_cons_zero, List.set_cons_succ]
                  refine' wpAnyH_take (i := 21) (oi := { dst := some 160, op := Go.Op.unOp Go.UnOp.not 4 (Go.Operand.tmp 159), type := 4, pos := "law.go:163", after := #[{ on := 20, ground := Go.Ground.data }, { on := 19, ground := Go.Ground.guard }], guard := some (19, false) }) (v := _) rfl (by kernel_rfl) (by kernel_rfl) (by kernel_rfl) (fun _ _ _ h => h) (Or.inl ⟨by rfl, ?hyn21⟩) (by assumption) ?restn21
                  case hyn21 => (intro w hSw; (try dsimp only at hSw); go_simp; try with_reducible rfl)
                  try simp only [Act.put, List.setIfInBounds_toArray, List.set_cons_zero, List.set_cons_succ]
                  refine' wpAnyH_take (i := 22) (oi := { dst := some 161, op := Go.Op.move (Go.Operand.tmp 160), type := 4, pos := "law.go:163", after := #[{ on := 21, ground := Go.Ground.data }, { on := 19, ground := Go.Ground.chain }, { on := 19, ground := Go.Ground.guard }], guard := some (19, false) }) (v := _) rfl (by kernel_rfl) (by kernel_rfl) (by kernel_rfl) (fun _ _ _ h => h) (Or.inl ⟨by rfl, ?hyn22⟩) (by assumption) ?restn22
                  case hyn22 => (intro w hSw; (try dsimp only at hSw); go_simp; try with_reducible rfl)
                  try simp only [Act.put, List.setIfInBounds_toArray, List.set_cons_zero, List.set_cons_succ]
                  refine' wpAnyH_take (i := 23) (oi := { dst := some 162, op := Go.Op.move (Go.Operand.tmp 15), type := 44, pos := "law.go:163", after := #[{ on := 22, ground := Go.Ground.guard }], guard := some (22, true) }) (v := _) rfl (by kernel_rfl) (by kernel_rfl) (by kernel_rfl) (fun _ _ _ h => h) (Or.inl ⟨by rfl, ?hyn23⟩) (by assumption) ?restn23
                  case hyn23 => (intro w hSw; (try dsimp only at hSw); go_simp; try with_reducible rfl)
                  try simp only [Act.put, List.setIfInBounds_toArray, List.set_cons_zero, List.set_cons_succ]
                  refine' wpAnyH_take (i := 24) (oi := { dst := some 163, op := Go.Op.binOp Go.BinOp.neq 44 (Go.Operand.tmp 162) (Go.Operand.const (Go.Value.int Go.IntKind.i64 0)) 44, type := 4, pos := "law.go:163", after := #[{ on := 23, ground := Go.Ground.data }, { on := 22, ground := Go.Ground.guard }], guard := some (22, true) }) (v := _) rfl (by kernel_rfl) (by kernel_rfl) (by kernel_rfl) (fun _ _ _ h => h) (Or.inl ⟨by rfl, ?hyn24⟩) (by assumption) ?restn24
                  case hyn24 => (intro w hSw; (try dsimp only at hSw); go_simp; try with_reducible rfl)
                  try simp only [Act.put, List.setIfInBounds_toArray, List.set_cons_zero, List.set_cons_succ]
                  refine' wpAnyH_take (i := 25) (oi := { dst := some 164, op := Go.Op.move (Go.Operand.tmp 163), type := 4, pos := "law.go:163", after := #[{ on := 24, ground := Go.Ground.data }, { on := 22, ground := Go.Ground.chain }, { on := 22, ground := Go.Ground.guard }], guard := some (22, true) }) (v := _) rfl (by kernel_rfl) (by kernel_rfl) (by kernel_rfl) (fun _ _ _ h => h) (Or.inl ⟨by rfl, ?hyn25⟩) (by assumption) ?restn25
                  case hyn25 => (intro w hSw; (try dsimp only at hSw); go_simp; try with_reducible rfl)
                  try simp only [Act.put, List.setIfInBounds_toArray, List.set_cons_zero, List.set_cons_succ]
                  refine' wpAnyH_take (i := 26) (oi := { dst := some 165, op := Go.Op.move (Go.Operand.tmp 8), type := 3, pos := "law.go:163", after := #[{ on := 25, ground := Go.Ground.guard }], guard := some (25, false) }) (v := _) rfl (by kernel_rfl) (by kernel_rfl) (by kernel_rfl) (fun _ _ _ h => h) (Or.inl ⟨by rfl, ?hyn26⟩) (by assumption) ?restn26
                  case hyn26 => (intro w hSw; (try dsimp only at hSw); go_simp; try with_reducible rfl)
                  try simp only [Act.put, List.setIfInBounds_toArray, List.set_cons_zero, List.set_cons_succ]
                  refine' wpAnyH_take (i := 27) (oi := { dst := some 166, op := Go.Op.binOp Go.BinOp.geq 3 (Go.Operand.tmp 165) (Go.Operand.const (Go.Value.int Go.IntKind.i64 15)) 3, type := 4, pos := "law.go:163", after := #[{ on := 26, ground := Go.Ground.data }, { on := 25, ground := Go.Ground.guard }], guard := some (25, false) }) (v := _) rfl (by kernel_rfl) (by kernel_rfl) (by kernel_rfl) (fun _ _ _ h => h) (Or.inl ⟨by rfl, ?hyn27⟩) (by assumption) ?restn27
                  case hyn27 => (intro w hSw; (try dsimp only at hSw); go_simp; try with_reducible rfl)
                  try simp only [Act.put, List.setIfInBounds_toArray, List.set_cons_zero, List.set_cons_succ]
                  refine' wpAnyH_take (i := 28) (oi := { dst := some 167, op := Go.Op.pick (Go.Operand.tmp 164) (Go.Operand.const (Go.Value.bool true)) (Go.Operand.tmp 166), type := 4, pos := "law.go:163", after := #[{ on := 25, ground := Go.Ground.data }, { on := 27, ground := Go.Ground.data }, { on := 22, ground := Go.Ground.guard }], guard := some (22, true) }) (v := _) rfl (by kernel_rfl) (by kernel_rfl) (by kernel_rfl) (fun _ _ _ h => h) (Or.inl ⟨by rfl, ?hyn28⟩) (by assumption) ?restn28
                  case hyn28 => (intro w hSw; (try dsimp only at hSw); go_simp; try with_reducible rfl)
                  try simp only [Act.put, List.setIfInBounds_toArray, List.set_cons_zero, List.set_cons_succ]
                  refine' wpAnyH_take (i := 29) (oi := { dst := some 168, op := Go.Op.pick (Go.Operand.tmp 161) (Go.Operand.tmp 167) (Go.Operand.const (Go.Value.bool false)), type := 4, pos := "law.go:163", after := #[{ on := 22, ground := Go.Ground.data }, { on := 28, ground := Go.Ground.data }, { on := 19, ground := Go.Ground.guard }], guard := some (19, false) }) (v := _) rfl (by kernel_rfl) (by kernel_rfl) (by kernel_rfl) (fun _ _ _ h => h) (Or.inl ⟨by rfl, ?hyn29⟩) (by assumption) ?restn29
                  case hyn29 => (intro w hSw; (try dsimp only at hSw); go_simp; try with_reducible rfl)
                  try simp only [Act.put, List.setIfInBounds_toArray, List.set_cons_zero, List.set_cons_succ]
                  refine' wpAnyH_take (i := 30) (oi := { dst := some 169, op := Go.Op.pick (Go.Operand.tmp 158) (Go.Operand.const (Go.Value.bool true)) (Go.Operand.tmp 168), type := 4, pos := "law.go:163", after := #[{ on := 19, ground := Go.Ground.data }, { on := 29, ground := Go.Ground.data }], guard := none }) (v := _) rfl (by kernel_rfl) (by kernel_rfl) (by kernel_rfl) (fun _ _ _ h => h) (Or.inl ⟨by rfl, ?hyn30⟩) (by assumption) ?restn30
                  case hyn30 => (intro w hSw; (try dsimp only at hSw); go_simp; try with_reducible rfl)
                  try simp only [Act.put, List.setIfInBounds_toArray, List.set_cons_zero, List.set_cons_succ]
                  refine wpAnyH_done (by kernel_rfl) ?_ _
                  have I9 := Lib.hid (I7.out wB bB)
                  subst hQ
                  go_wp2
                  go_roundw
                  case rel => exact ⟨k + 1, Z + 1, _, _, _, _, _, _, by omega, by omega, by go_num, by go_num, rfl, rfl, I9⟩
                  case measure => simp [intOf]; omega

                | some ee =>
                  rw [hans] at KS hpot
                  unfold ansV17 tface14 at KS
                  have hb2 : S2.G.st = 0 := hpot.2.2 (by simp)
                  have HB2 := Lib.hid hb2
                  have HT2 := Lib.hid hT2
                  have HV2 := Lib.hid hV2
                  have HK2 := Lib.hid hK2
                  have HOX := Lib.hid hO2
                  have HSX := Lib.hid hM2
                  have HMAY := Lib.hid hmay
                  clear hpot hxT hS2 hT2 hV2 hK2 hG2 hO2 hM2 hA2 hpt hans hmay hb2 HT5 e0 hst
                  go_wp2_with fail
                  refine KS.out.mono ?_
                  rintro e w6 ⟨rfl, s6, o6⟩
                  obtain ⟨s', vl, vg, a', b', k', v', rg, rpt, hd, hu1, hu2⟩ := id s6
                  have KW := Lib.hid (words14_any w6 rpt.plain)
                  have S6 := Lib.hid s6
                  have O6 := Lib.hid o6
                  clear s6 o6 KS rg rpt hd hu1 hu2
                  go_wp2_with fail
                  refine KW.out.mono ?_
                  rintro e w7 ⟨v7, rfl, own7, b7⟩
                  obtain ⟨l7, s7⟩ := LX.out.port B5.out S6.out O6.out b7 own7
                  rw [HK2.out, HT2.out] at s7
                  rw [HV2.out] at own7
                  obtain ⟨A7, c7, rfl⟩ := own_open14 own7
                  have L7 := Lib.hid l7
                  have S7 := Lib.hid s7
                  have I7 : Hid (∀ W, Below w7.heap.size w7 W → Inv17 w W g bs G0 N (Z + 1) (.slice A7 N c7) (.slice A2 n2 c2)) := Lib.hid (fun W hb => ⟨_, _, _, _, _, HOX.out, HSX.out, HV2.out, HLN.out.2, fun h => absurd HB2.out h, L7.out.quiet hb⟩)
                  have KG := Lib.hid (show Calls Tryd.prog 45 #[.pointer (some ⟨g, 0, none⟩)] w7 fun e w' => ∃ A c, e = .returned (.tuple #[.slice A (gotL17 S2.G).length c, .int .i64 (S2.G).gh]) ∧ Below w7.heap.size w7 w' from by
                    obtain ⟨s, vl, vg, a', b', k', v', rg, -, -, -, -⟩ := S7.out
                    refine (got17_any w7 rg (by have := HOX.out.gl; omega)).mono (fun e w' h => ?_)
                    obtain ⟨v, he, ho, hb⟩ := h
                    obtain ⟨A, c, rfl⟩ := own_open14 ho
                    exact ⟨A, c, he, hb⟩)
                  have KH := Lib.hid (fun W (hb : Below w7.heap.size w7 W) => show Calls Tryd.prog 46 #[.pointer (some ⟨g, 0, none⟩)] W fun e w' => ∃ A c, e = .returned (.slice A (hs17 S2.G).length c) ∧ Below w7.heap.size w7 w' from by
                    obtain ⟨s, vl, vg, a', b', k', v', rg, -, -, -, -⟩ := S7.out
                    refine (held17_any W (rg.below hb)).mono (fun e w' h => ?_)
                    obtain ⟨v, he, ho, hb'⟩ := h
                    obtain ⟨A, c, rfl⟩ := own_open14 ho
                    exact ⟨A, c, he, below_on hb hb'⟩)
                  have KK := Lib.hid (fun W (hb : Below w7.heap.size w7 W) => show Calls Tryd.prog 36 #[.pointer (some ⟨p, 0, none⟩)] W fun e w' => ∃ A c, e = .returned (.slice A 0 c) ∧ Below w7.heap.size w7 w' from by
                    obtain ⟨s, vl, vg, a', b', k', v', -, rpt, -, -, -⟩ := S7.out
                    refine (kicks14_any W (rpt.plain.below hb) (by simp)).mono (fun e w' h => ?_)
                    obtain ⟨v, he, ho, hb'⟩ := h
                    obtain ⟨A, c, rfl⟩ := own_open14 ho
                    exact ⟨A, c, he, below_on hb hb'⟩)
                  have HBS : Hid (∀ W, Below w7.heap.size w7 W → W.cell? ⟨w.heap.size, 0, none⟩ = some (.int .i64 B) ∧ W.cell? ⟨w.heap.size, 1, none⟩ = some (.int .i64 (G0.R : Int)) ∧ W.cell? ⟨w.heap.size, 2, none⟩ = some (.int .i64 self) ∧ W.cell? ⟨w.heap.size, 3, none⟩ = some (.int .i64 peer) ∧ W.cell? ⟨w.heap.size, 4, none⟩ = some (.int .i64 own)) := Lib.hid (fun W hb => by
                    have r := L7.out.base.below hb
                    have a0 := r.cell 0
                    have a1 := r.cell 1
                    have a2 := r.cell 2
                    have a3 := r.cell 3
                    have a4 := r.cell 4
                    rw [HBSV.out] at a0 a1 a2 a3 a4
                    exact ⟨a0, a1, a2, a3, a4⟩)
                  obtain ⟨mg, hmg⟩ : ∃ mg, (gotL17 S2.G).length = mg := ⟨_, rfl⟩
                  obtain ⟨mh, hmh⟩ : ∃ mh, (hs17 S2.G).length = mh := ⟨_, rfl⟩
                  obtain ⟨gh, hgh⟩ : ∃ gh, (S2.G).gh = gh := ⟨_, rfl⟩
                  have hmg8 : mg ≤ 8 := by
                    rw [← hmg]
                    unfold gotL17
                    split
                    · simp
                    · exact HOX.out.gl
                  have hmhR : mh ≤ G0.R := by rw [← hmh, ← HSX.out.1]; exact HOX.out.hs
                  have g28a : decide ((8 : Int) < (mg : Int)) = false := by simp; omega
                  have g28b : decide ((G0.R : Int) < (mh : Int)) = false := by simp; omega
                  have g28c : decide (8 < mg) = false := by simp; omega
                  have g28d : decide (G0.R < mh) = false := by simp; omega
                  rw [hmg, hgh] at KG
                  rw [hmh] at KH
                  clear hmg hmh hgh hmg8 hmhR
                  have KT := Lib.hid (fun W (hb : Below w7.heap.size w7 W) => show Calls Tryd.prog 24 #[.pointer (some ⟨t, 0, none⟩)] W fun e w' => ∃ gT cT, e = .returned (.slice (some ⟨gT, 0, none⟩) 1 cT) ∧ w'.cell? ⟨gT, 0, none⟩ = some (.int .i64 xT.1) ∧ w'.cell? ⟨gT, 1, none⟩ = some (.int .i64 xT.2.1) ∧ w'.cell? ⟨gT, 2, none⟩ = some (.int .i64 xT.2.2) ∧ Below w7.heap.size w7 w' from by
                    obtain ⟨s, vl, vg, a', b', k', v', -, rpt, -, -, -⟩ := S7.out
                    refine (touches14_any W (rpt.trace.below hb) (by simp)).mono (fun e w' h => ?_)
                    obtain ⟨v, he, ho, hb'⟩ := h
                    obtain ⟨gT, cT, rfl, _, _⟩ := ho.form (by simp)
                    exact ⟨gT, cT, he, (ho.cellAt 0 (by exact (by decide : 0 < 3))).trans rfl, (ho.cellAt 1 (by exact (by decide : 1 < 3))).trans rfl, (ho.cellAt 2 (by exact (by decide : 2 < 3))).trans rfl, below_on hb hb'⟩)
                  have KBU := Lib.hid (fun W (hb : Below w7.heap.size w7 W) => show Calls Tryd.prog 43 #[.pointer (some ⟨g, 0, none⟩)] W fun e w' => e = .returned (.bool false) ∧ Below w7.heap.size w7 w' from by
                    obtain ⟨s, vl, vg, a', b', k', v', rg, -, -, -, -⟩ := S7.out
                    refine (busy17_any W (rg.below hb)).mono (fun e w' h => ⟨by rw [h.1]; simp [HB2.out], by rw [← h.2]; exact hb⟩))
                  have KMY := Lib.hid (fun W (hb : Below w7.heap.size w7 W) => (may17_any B self peer own G0.R xT W (by rw [← HSX.out.1]; exact HOX.out.R) (by rw [← HG0.out.1, ← HSX.out.2.1]; exact HOX.out.B) (by have := HMAY.out; rw [HSM.out.1, HSM.out.2.1, HSM.out.2.2.1, HG0.out.1, HG0.out.2] at this; exact this)).mono (R' := fun e w' => e = .returned (.bool true) ∧ Below w7.heap.size w7 w') (fun e w' ⟨he, hb'⟩ => ⟨he, below_on hb hb'⟩))
                  unfold baseV17 at KMY
                  have hzb : True := trivial
                  clear own7 b7 l7 s7 KW S6 LX HOK HSM HLN HPT S5 PT HNEW O6 L7 S7 HOX HSX
                  go_wp2_with fail
                  refine KG.out.mono ?_
                  rintro e w8 ⟨A8, c8, rfl, b8⟩
                  clear KG
                  go_wp2
                  have hD0 : Below w7.heap.size w7 w8.drew := b8.drew
                  have hS0 := (HBS.out _ hD0).2.1
                  generalize hQ : w.heap.size = Q at *
                  go_region_held3 (fun W => W.cell? ⟨Q, 1, none⟩ = some (.int .i64 (G0.R : Int)))
                    (first | exact hS0 | exact hSH | exact hSK | go_keep)
                    (first
                      | (go_at_call 46; refine (KH.out _ (by first | assumption)).mono ?_; rintro e wH ⟨AH, cH, rfl, bH⟩; have hSH := (HBS.out _ bH).2.1)
                      | (go_at_call 36; refine (KK.out _ (by first | assumption)).mono ?_; rintro e wK ⟨AK, cK, rfl, bK⟩; have hSK := (HBS.out _ bK).2.1))
                  subst hQ
                  clear KH KK
                  go_wp2
                  have hD1 : Below w7.heap.size w7 wK.drew := bK.drew
                  have hS1 := HBS.out _ hD1
                  generalize hQ : w.heap.size = Q at *
                  refine wp_region_held_drew (S := fun W => W.cell? ⟨Q, 0, none⟩ = some (.int .i64 B) ∧ W.cell? ⟨Q, 1, none⟩ = some (.int .i64 (G0.R : Int)) ∧ W.cell? ⟨Q, 2, none⟩ = some (.int .i64 self) ∧ W.cell? ⟨Q, 3, none⟩ = some (.int .i64 peer) ∧ W.cell? ⟨Q, 4, none⟩ = some (.int .i64 own)) (by kernel_rfl) hS1 (fun hHeld => ?_)
                  refine' wpAnyH_take (i := 0) (oi := { dst := some 139, op := Go.Op.move (Go.Operand.tmp 13), type := 56, pos := "law.go:163", after := #[], guard := none }) (v := _) rfl (by kernel_rfl) (by kernel_rfl) (by kernel_rfl) (fun _ _ _ h => h) (Or.inl ⟨by rfl, ?hys0⟩) (by assumption) ?rests0
                  case hys0 => (intro w hSw; (try dsimp only at hSw); go_simp; try with_reducible rfl)
                  try simp only [Act.put, List.setIfInBounds_toArray, List.set_cons_zero, List.set_cons_succ]
                  refine wpAnyH_ready (rs := [1]) (by kernel_rfl) (by simp) ?_
                  refine AllReadyH.cons (o := { dst := some 140, op := Go.Op.call { callee := Go.Callee.value (Go.Operand.func 24), args := #[Go.Operand.tmp 139], argTypes := #[56] }, type := 60, pos := "law.go:163", after := #[{ on := 0, ground := Go.Ground.data }], guard := none }) rfl (fun K hK => ?_) AllReadyH.nil
                  go_simp
                  refine (KT.out _ (by first | assumption)).mono ?_
                  rintro e wT ⟨gT, cT, rfl, t0, t1, t2, bT⟩
                  have hST := HBS.out _ bT
                  go_wp2_with fail
                  refine hK.out _ _ hST (fun _ => ?_)
                  clear hK K
                  try simp only [Act.put, List.setIfInBounds_toArray, List.set_cons_zero, List.set_cons_succ]
                  refine' wpAnyH_take (i := 2) (oi := { dst := some 141, op := Go.Op.call { callee := Go.Callee.builtin Go.Builtin.len, args := #[Go.Operand.tmp 140], argTypes := #[60] }, type := 3, pos := "law.go:163", after := #[{ on := 1, ground := Go.Ground.data }], guard := none }) (v := _) rfl (by kernel_rfl) (by kernel_rfl) (by kernel_rfl) (fun _ _ _ h => h) (Or.inl ⟨by rfl, ?hys2⟩) (by assumption) ?rests2
                  case hys2 => (intro w hSw; (try dsimp only at hSw); go_simp; try with_reducible rfl)
                  try simp only [Act.put, List.setIfInBounds_toArray, List.set_cons_zero, List.set_cons_succ]
                  refine' wpAnyH_take (i := 3) (oi := { dst := some 142, op := Go.Op.binOp Go.BinOp.neq 3 (Go.Operand.tmp 141) (Go.Operand.const (Go.Value.int Go.IntKind.i64 1)) 3, type := 4, pos := "law.go:163", after := #[{ on := 2, ground := Go.Ground.data }], guard := none }) (v := _) rfl (by kernel_rfl) (by kernel_rfl) (by kernel_rfl) (fun _ _ _ h => h) (Or.inl ⟨by rfl, ?hys3⟩) (by assumption) ?rests3
                  case hys3 => (intro w hSw; (try dsimp only at hSw); go_simp; try with_reducible rfl)
                  try simp only [Act.put, List.setIfInBounds_toArray, List.set_cons_zero, List.set_cons_succ]
                  refine' wpAnyH_take (i := 4) (oi := { dst := some 143, op := Go.Op.move (Go.Operand.tmp 142), type := 4, pos := "law.go:163", after := #[{ on := 3, ground := Go.Ground.data }, { on := 1, ground := Go.Ground.chain }], guard := none }) (v := _) rfl (by kernel_rfl) (by kernel_rfl) (by kernel_rfl) (fun _ _ _ h => h) (Or.inl ⟨by rfl, ?hys4⟩) (by assumption) ?rests4
                  case hys4 => (intro w hSw; (try dsimp only at hSw); go_simp; try with_reducible rfl)
                  try simp only [Act.put, List.setIfInBounds_toArray, List.set_cons_zero, List.set_cons_succ]
                  refine' wpAnyH_take (i := 5) (oi := { dst := some 144, op := Go.Op.load 25 (Go.Operand.tmp 2), type := 25, pos := "law.go:163", after := #[{ on := 4, ground := Go.Ground.guard }], guard := some (4, false) }) (v := _) rfl (by kernel_rfl) (by kernel_rfl) (by kernel_rfl) (fun _ _ _ h => h) (Or.inl ⟨by rfl, ?hys5⟩) (by assumption) ?rests5
                  case hys5 => (intro w hSw; (try dsimp only at hSw); go_simp; try with_reducible rfl)
                  try simp only [Act.put, List.setIfInBounds_toArray, List.set_cons_zero, List.set_cons_succ]
                  refine' wpAnyH_take (i := 6) (oi := { dst := some 145, op := Go.Op.move (Go.Operand.tmp 13), type := 56, pos := "law.go:163", after := #[{ on := 4, ground := Go.Ground.guard }], guard := some (4, false) }) (v := _) rfl (by kernel_rfl) (by kernel_rfl) (by kernel_rfl) (fun _ _ _ h => h) (Or.inl ⟨by rfl, ?hys6⟩) (by assumption) ?rests6
                  case hys6 => (intro w hSw; (try dsimp only at hSw); go_simp; try with_reducible rfl)
                  try simp only [Act.put, List.setIfInBounds_toArray, List.set_cons_zero, List.set_cons_succ]
                  refine wpAnyH_ready (rs := [7]) (by kernel_rfl) (by simp) ?_
                  refine AllReadyH.cons (o := { dst := some 146, op := Go.Op.call { callee := Go.Callee.value (Go.Operand.func 24), args := #[Go.Operand.tmp 145], argTypes := #[56] }, type := 60, pos := "law.go:163", after := #[{ on := 6, ground := Go.Ground.data }, { on := 4, ground := Go.Ground.chain }, { on := 4, ground := Go.Ground.guard }], guard := some (4, false) }) rfl (fun K hK => ?_) AllReadyH.nil
                  go_simp
                  refine (KT.out _ (by first | assumption)).mono ?_
                  rintro e wT ⟨gT, cT, rfl, t0, t1, t2, bT⟩
                  have hST := HBS.out _ bT
                  go_wp2_with fail
                  refine hK.out _ _ hST (fun _ => ?_)
                  clear hK K
                  try simp only [Act.put, List.setIfInBounds_toArray, List.set_cons_zero, List.set_cons_succ]
                  refine' wpAnyH_take (i := 8) (oi := { dst := some 147, op := Go.Op.indexAddr 60 (Go.Operand.tmp 146) (Go.Operand.const (Go.Value.int Go.IntKind.i64 0)), type := 0, pos := "law.go:163", after := #[{ on := 7, ground := Go.Ground.data }, { on := 4, ground := Go.Ground.guard }], guard := some (4, false) }) (v := _) rfl (by kernel_rfl) (by kernel_rfl) (by kernel_rfl) (fun _ _ _ h => h) (Or.inl ⟨by rfl, ?hys8⟩) (by assumption) ?rests8
                  case hys8 => (intro w hSw; (try dsimp only at hSw); go_simp; try with_reducible rfl)
                  try simp only [Act.put, List.setIfInBounds_toArray, List.set_cons_zero, List.set_cons_succ]
                  refine wpAnyH_ready (rs := [9]) (by kernel_rfl) (by simp) ?_
                  refine AllReadyH.cons (o := { dst := some 148, op := Go.Op.load 64 (Go.Operand.tmp 147), type := 64, pos := "law.go:163", after := #[{ on := 8, ground := Go.Ground.data }, { on := 4, ground := Go.Ground.guard }], guard := some (4, false) }) rfl (fun K hK => ?_) AllReadyH.nil
                  go_simp
                  refine hK.out _ _ (by assumption) (fun _ => ?_)
                  clear hK K
                  try simp only [Act.put, List.setIfInBounds_toArray, List.set_cons_zero, List.set_cons_succ]
                  refine wpAnyH_ready (rs := [10]) (by kernel_rfl) (by simp) ?_
                  refine AllReadyH.cons (o := { dst := some 149, op := Go.Op.call { callee := Go.Callee.value (Go.Operand.func 47), args := #[Go.Operand.tmp 144, Go.Operand.tmp 148], argTypes := #[25, 64] }, type := 4, pos := "law.go:163", after := #[{ on := 5, ground := Go.Ground.data }, { on := 9, ground := Go.Ground.data }, { on := 7, ground := Go.Ground.chain }, { on := 4, ground := Go.Ground.guard }], guard := some (4, false) }) rfl (fun K hK => ?_) AllReadyH.nil
                  go_simp
                  refine (KMY.out _ (by first | assumption)).mono ?_
                  rintro e wM ⟨rfl, bM⟩
                  have hSM := HBS.out _ bM
                  go_wp2_with fail
                  refine hK.out _ _ hSM (fun _ => ?_)
                  clear hK K
                  try simp only [Act.put, List.setIfInBounds_toArray, List.set_cons_zero, List.set_cons_succ]
                  refine' wpAnyH_take (i := 11) (oi := { dst := some 150, op := Go.Op.unOp Go.UnOp.not 4 (Go.Operand.tmp 149), type := 4, pos := "law.go:163", after := #[{ on := 10, ground := Go.Ground.data }, { on := 4, ground := Go.Ground.guard }], guard := some (4, false) }) (v := _) rfl (by kernel_rfl) (by kernel_rfl) (by kernel_rfl) (fun _ _ _ h => h) (Or.inl ⟨by rfl, ?hys11⟩) (by assumption) ?rests11
                  case hys11 => (intro w hSw; (try dsimp only at hSw); go_simp; try with_reducible rfl)
                  try simp only [Act.put, List.setIfInBounds_toArray, List.set_cons_zero, List.set_cons_succ]
                  refine' wpAnyH_take (i := 12) (oi := { dst := some 151, op := Go.Op.pick (Go.Operand.tmp 143) (Go.Operand.const (Go.Value.bool true)) (Go.Operand.tmp 150), type := 4, pos := "law.go:163", after := #[{ on := 4, ground := Go.Ground.data }, { on := 11, ground := Go.Ground.data }], guard := none }) (v := _) rfl (by kernel_rfl) (by kernel_rfl) (by kernel_rfl) (fun _ _ _ h => h) (Or.inl ⟨by rfl, ?hys12⟩) (by assumption) ?rests12
                  case hys12 => (intro w hSw; (try dsimp only at hSw); go_simp; try with_reducible rfl)
                  try simp only [Act.put, List.setIfInBounds_toArray, List.set_cons_zero, List.set_cons_succ]
                  refine' wpAnyH_take (i := 13) (oi := { dst := some 152, op := Go.Op.move (Go.Operand.tmp 151), type := 4, pos := "law.go:163", after := #[{ on := 12, ground := Go.Ground.data }, { on := 10, ground := Go.Ground.chain }], guard := none }) (v := _) rfl (by kernel_rfl) (by kernel_rfl) (by kernel_rfl) (fun _ _ _ h => h) (Or.inl ⟨by rfl, ?hys13⟩) (by assumption) ?rests13
                  case hys13 => (intro w hSw; (try dsimp only at hSw); go_simp; try with_reducible rfl)
                  try simp only [Act.put, List.setIfInBounds_toArray, List.set_cons_zero, List.set_cons_succ]
                  refine' wpAnyH_take (i := 14) (oi := { dst := some 153, op := Go.Op.move (Go.Operand.tmp 14), type := 4, pos := "law.go:163", after := #[{ on := 13, ground := Go.Ground.guard }], guard := some (13, false) }) (v := _) rfl (by kernel_rfl) (by kernel_rfl) (by kernel_rfl) (fun _ _ _ h => h) (Or.inl ⟨by rfl, ?hys14⟩) (by assumption) ?rests14
                  case hys14 => (intro w hSw; (try dsimp only at hSw); go_simp; try with_reducible rfl)
                  try simp only [Act.put, List.setIfInBounds_toArray, List.set_cons_zero, List.set_cons_succ]
                  refine' wpAnyH_take (i := 15) (oi := { dst := some 154, op := Go.Op.move (Go.Operand.tmp 5), type := 73, pos := "law.go:163", after := #[{ on := 13, ground := Go.Ground.guard }], guard := some (13, false) }) (v := _) rfl (by kernel_rfl) (by kernel_rfl) (by kernel_rfl) (fun _ _ _ h => h) (Or.inl ⟨by rfl, ?hys15⟩) (by assumption) ?rests15
                  case hys15 => (intro w hSw; (try dsimp only at hSw); go_simp; try with_reducible rfl)
                  try simp only [Act.put, List.setIfInBounds_toArray, List.set_cons_zero, List.set_cons_succ]
                  refine wpAnyH_ready (rs := [16]) (by kernel_rfl) (by simp) ?_
                  refine AllReadyH.cons (o := { dst := some 155, op := Go.Op.call { callee := Go.Callee.value (Go.Operand.func 43), args := #[Go.Operand.tmp 154], argTypes := #[73] }, type := 4, pos := "law.go:163", after := #[{ on := 15, ground := Go.Ground.data }, { on := 13, ground := Go.Ground.chain }, { on := 13, ground := Go.Ground.guard }], guard := some (13, false) }) rfl (fun K hK => ?_) AllReadyH.nil
                  go_simp
                  refine (KBU.out _ (by first | assumption)).mono ?_
                  rintro e wB ⟨rfl, bB⟩
                  have hSB := HBS.out _ bB
                  go_wp2_with fail
                  refine hK.out _ _ hSB (fun _ => ?_)
                  clear hK K
                  try simp only [Act.put, List.setIfInBounds_toArray, List.set_cons_zero, List.set_cons_succ]
                  refine' wpAnyH_take (i := 17) (oi := { dst := some 156, op := Go.Op.binOp Go.BinOp.eql 4 (Go.Operand.tmp 153) (Go.Operand.tmp 155) 4, type := 4, pos := "law.go:163", after := #[{ on := 14, ground := Go.Ground.data }, { on := 16, ground := Go.Ground.data }, { on := 13, ground := Go.Ground.guard }], guard := some (13, false) }) (v := _) rfl (by kernel_rfl) (by kernel_rfl) (by kernel_rfl) (fun _ _ _ h => h) (Or.inl ⟨by rfl, ?hys17⟩) (by assumption) ?rests17
                  case hys17 => (intro w hSw; (try dsimp only at hSw); go_simp; try with_reducible rfl)
                  try simp only [Act.put, List.setIfInBounds_toArray, List.set_cons_zero, List.set_cons_succ]
                  refine' wpAnyH_take (i := 18) (oi := { dst := some 157, op := Go.Op.pick (Go.Operand.tmp 152) (Go.Operand.const (Go.Value.bool true)) (Go.Operand.tmp 156), type := 4, pos := "law.go:163", after := #[{ on := 13, ground := Go.Ground.data }, { on := 17, ground := Go.Ground.data }], guard := none }) (v := _) rfl (by kernel_rfl) (by kernel_rfl) (by kernel_rfl) (fun _ _ _ h => h) (Or.inl ⟨by rfl, ?hys18⟩) (by assumption) ?rests18
                  case hys18 => (intro w hSw; (try dsimp only at hSw); go_simp; try with_reducible rfl)
                  try simp only [Act.put, List.setIfInBounds_toArray, List.set_cons_zero, List.set_cons_succ]
                  refine' wpAnyH_take (i := 19) (oi := { dst := some 158, op := Go.Op.move (Go.Operand.tmp 157), type := 4, pos := "law.go:163", after := #[{ on := 18, ground := Go.Ground.data }, { on := 16, ground := Go.Ground.chain }], guard := none }) (v := _) rfl (by kernel_rfl) (by kernel_rfl) (by kernel_rfl) (fun _ _ _ h => h) (Or.inl ⟨by rfl, ?hys19⟩) (by assumption) ?rests19
                  case hys19 => (intro w hSw; (try dsimp only at hSw); go_simp; try with_reducible rfl)
                  try simp only [Act.put, List.setIfInBounds_toArray, List.set_cons_zero, List.set_cons_succ]
                  refine' wpAnyH_take (i := 20) (oi := { dst := some 159, op := Go.Op.move (Go.Operand.tmp 14), type := 4, pos := "law.go:163", after := #[{ on := 19, ground := Go.Ground.guard }], guard := some (19, false) }) (v := _) rfl (by kernel_rfl) (by kernel_rfl) (by kernel_rfl) (fun _ _ _ h => h) (Or.inl ⟨by rfl, ?hys20⟩) (by assumption) ?rests20
                  case hys20 => (intro w hSw; (try dsimp only at hSw); go_simp; try with_reducible rfl)
                  try simp only [Act.put, List.setIfInBounds_toArray, List.set_cons_zero, List.set_cons_succ]
                  refine' wpAnyH_take (i := 21) (oi := { dst := some 160, op := Go.Op.unOp Go.UnOp.not 4 (Go.Operand.tmp 159), type := 4, pos := "law.go:163", after := #[{ on := 20, ground := Go.Ground.data }, { on := 19, ground := Go.Ground.guard }], guard := some (19, false) }) (v := _) rfl (by kernel_rfl) (by kernel_rfl) (by kernel_rfl) (fun _ _ _ h => h) (Or.inl ⟨by rfl, ?hys21⟩) (by assumption) ?rests21
                  case hys21 => (intro w hSw; (try dsimp only at hSw); go_simp; try with_reducible rfl)
                  try simp only [Act.put, List.setIfInBounds_toArray, List.set_cons_zero, List.set_cons_succ]
                  refine' wpAnyH_take (i := 22) (oi := { dst := some 161, op := Go.Op.move (Go.Operand.tmp 160), type := 4, pos := "law.go:163", after := #[{ on := 21, ground := Go.Ground.data }, { on := 19, ground := Go.Ground.chain }, { on := 19, ground := Go.Ground.guard }], guard := some (19, false) }) (v := _) rfl (by kernel_rfl) (by kernel_rfl) (by kernel_rfl) (fun _ _ _ h => h) (Or.inl ⟨by rfl, ?hys22⟩) (by assumption) ?rests22
                  case hys22 => (intro w hSw; (try dsimp only at hSw); go_simp; try with_reducible rfl)
                  try simp only [Act.put, List.setIfInBounds_toArray, List.set_cons_zero, List.set_cons_succ]
                  refine' wpAnyH_take (i := 23) (oi := { dst := some 162, op := Go.Op.move (Go.Operand.tmp 15), type := 44, pos := "law.go:163", after := #[{ on := 22, ground := Go.Ground.guard }], guard := some (22, true) }) (v := undef) rfl (by kernel_rfl) (by kernel_rfl) (by kernel_rfl) (fun _ _ _ h => h) (Or.inr ⟨by rfl, rfl⟩) (by assumption) ?rests23
                  try simp only [Act.put, List.setIfInBounds_toArray, List.set_cons_zero, List.set_cons_succ]
                  refine' wpAnyH_take (i := 24) (oi := { dst := some 163, op := Go.Op.binOp Go.BinOp.neq 44 (Go.Operand.tmp 162) (Go.Operand.const (Go.Value.int Go.IntKind.i64 0)) 44, type := 4, pos := "law.go:163", after := #[{ on := 23, ground := Go.Ground.data }, { on := 22, ground := Go.Ground.guard }], guard := some (22, true) }) (v := undef) rfl (by kernel_rfl) (by kernel_rfl) (by kernel_rfl) (fun _ _ _ h => h) (Or.inr ⟨by rfl, rfl⟩) (by assumption) ?rests24
                  try simp only [Act.put, List.setIfInBounds_toArray, List.set_cons_zero, List.set_cons_succ]
                  refine' wpAnyH_take (i := 25) (oi := { dst := some 164, op := Go.Op.move (Go.Operand.tmp 163), type := 4, pos := "law.go:163", after := #[{ on := 24, ground := Go.Ground.data }, { on := 22, ground := Go.Ground.chain }, { on := 22, ground := Go.Ground.guard }], guard := some (22, true) }) (v := undef) rfl (by kernel_rfl) (by kernel_rfl) (by kernel_rfl) (fun _ _ _ h => h) (Or.inr ⟨by rfl, rfl⟩) (by assumption) ?rests25
                  try simp only [Act.put, List.setIfInBounds_toArray, List.set_cons_zero, List.set_cons_succ]
                  refine' wpAnyH_take (i := 26) (oi := { dst := some 165, op := Go.Op.move (Go.Operand.tmp 8), type := 3, pos := "law.go:163", after := #[{ on := 25, ground := Go.Ground.guard }], guard := some (25, false) }) (v := undef) rfl (by kernel_rfl) (by kernel_rfl) (by kernel_rfl) (fun _ _ _ h => h) (Or.inr ⟨by rfl, rfl⟩) (by assumption) ?rests26
                  try simp only [Act.put, List.setIfInBounds_toArray, List.set_cons_zero, List.set_cons_succ]
                  refine' wpAnyH_take (i := 27) (oi := { dst := some 166, op := Go.Op.binOp Go.BinOp.geq 3 (Go.Operand.tmp 165) (Go.Operand.const (Go.Value.int Go.IntKind.i64 15)) 3, type := 4, pos := "law.go:163", after := #[{ on := 26, ground := Go.Ground.data }, { on := 25, ground := Go.Ground.guard }], guard := some (25, false) }) (v := undef) rfl (by kernel_rfl) (by kernel_rfl) (by kernel_rfl) (fun _ _ _ h => h) (Or.inr ⟨by rfl, rfl⟩) (by assumption) ?rests27
                  try simp only [Act.put, List.setIfInBounds_toArray, List.set_cons_zero, List.set_cons_succ]
                  refine' wpAnyH_take (i := 28) (oi := { dst := some 167, op := Go.Op.pick (Go.Operand.tmp 164) (Go.Operand.const (Go.Value.bool true)) (Go.Operand.tmp 166), type := 4, pos := "law.go:163", after := #[{ on := 25, ground := Go.Ground.data }, { on := 27, ground := Go.Ground.data }, { on := 22, ground := Go.Ground.guard }], guard := some (22, true) }) (v := undef) rfl (by kernel_rfl) (by kernel_rfl) (by kernel_rfl) (fun _ _ _ h => h) (Or.inr ⟨by rfl, rfl⟩) (by assumption) ?rests28
                  try simp only [Act.put, List.setIfInBounds_toArray, List.set_cons_zero, List.set_cons_succ]
                  refine' wpAnyH_take (i := 29) (oi := { dst := some 168, op := Go.Op.pick (Go.Operand.tmp 161) (Go.Operand.tmp 167) (Go.Operand.const (Go.Value.bool false)), type := 4, pos := "law.go:163", after := #[{ on := 22, ground := Go.Ground.data }, { on := 28, ground := Go.Ground.data }, { on := 19, ground := Go.Ground.guard }], guard := some (19, false) }) (v := _) rfl (by kernel_rfl) (by kernel_rfl) (by kernel_rfl) (fun _ _ _ h => h) (Or.inl ⟨by rfl, ?hys29⟩) (by assumption) ?rests29
                  case hys29 => (intro w hSw; (try dsimp only at hSw); go_simp; try with_reducible rfl)
                  try simp only [Act.put, List.setIfInBounds_toArray, List.set_cons_zero, List.set_cons_succ]
                  refine' wpAnyH_take (i := 30) (oi := { dst := some 169, op := Go.Op.pick (Go.Operand.tmp 158) (Go.Operand.const (Go.Value.bool true)) (Go.Operand.tmp 168), type := 4, pos := "law.go:163", after := #[{ on := 19, ground := Go.Ground.data }, { on := 29, ground := Go.Ground.data }], guard := none }) (v := _) rfl (by kernel_rfl) (by kernel_rfl) (by kernel_rfl) (fun _ _ _ h => h) (Or.inl ⟨by rfl, ?hys30⟩) (by assumption) ?rests30
                  case hys30 => (intro w hSw; (try dsimp only at hSw); go_simp; try with_reducible rfl)
                  try simp only [Act.put, List.setIfInBounds_toArray, List.set_cons_zero, List.set_cons_succ]
                  refine wpAnyH_done (by kernel_rfl) ?_ _
                  have I9 := Lib.hid (I7.out wB bB)
                  subst hQ
                  go_wp2
                  go_roundw
                  case rel => exact ⟨k + 1, Z + 1, _, _, _, _, _, _, by omega, by omega, by go_num, by go_num, rfl, rfl, I9⟩
                  case measure => simp [intOf]; omega

    · obtain rfl : n = k := by omega
      have KA := Lib.hid (alive17 wr (HT.out wr hbw))
      have BW := Lib.hid hbw
      clear L hOK hSM hVN hE8 hPT hbw HI HV
      go_wp2_with fail
      refine KA.out.mono ?_
      rintro e w9 ⟨rfl, b9⟩
      have B9 := Lib.hid (below_on BW.out b9)
      clear b9
      go_wp2
      go_ret
      exact ⟨rfl, B9.out⟩

#print axioms safe17_loop
end Go.Proofs.YtgdbaaoifnedbaaDoor
